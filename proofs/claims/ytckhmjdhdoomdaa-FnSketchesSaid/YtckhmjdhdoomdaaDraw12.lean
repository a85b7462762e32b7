/- Chapter 12's draws. No conditions. -/
import Derived.Test.YtckhmjdhdoomdaaDraw7
import Derived.Test.YtckhmjdhdoomdaaSkO
import Derived.Test.YtckhmjdhdoomdaaSk8
namespace Go.Proofs.Ytckhmjdhdoomdaa
open Go Go.RowKit
set_option linter.unusedVariables false
attribute [local irreducible] kh kid chl

set_option maxHeartbeats 2000000 in
/-- spec.l12Vector. -/
theorem vec12_any (B b : Nat) (w : World) (h : Cur B b w) :
    Calls Try.prog 63 #[.pointer (some ⟨b, 0, none⟩)] w fun e w' => ∃ v zs, e = .returned v ∧ Own 3 .i64 w.heap.size w' v zs ∧ zs.length ≤ 7 ∧ Cur B b w' ∧ w.grownBy w' (some b) := by
  obtain ⟨i0, hi, hz0, hz1, hz2⟩ := info_parts infoi64
  have Hhi := Lib.hid hi
  have H := Lib.hid h
  have HLt := Lib.hid h.lt
  clear h hi
  go_enter Try.func63, Try.ntmps63
  go_wp2_with fail
  refine (below_any B b 8 _ H.out (by omega) (by omega)).mono ?_
  rintro e w1 ⟨x, x0, x1, rfl, hc1, hg1⟩
  have HC1 := Lib.hid hc1
  have HG1 := Lib.hid hg1
  obtain ⟨n, rfl⟩ : ∃ n : Nat, x = (n : Int) := ⟨x.toNat, by omega⟩
  have hn7 : n ≤ 7 := by omega
  clear hc1 hg1
  go_wp2_with (first | (at_make; refine wpList_make_full _ rfl _ _ 25 rfl w1.heap.size 3 i0 (.int .i64 0) 1 Try.underlying25 Hhi.out hz0 hz1 .i64 .i64 _ _ n rfl rfl rfl rfl (by rw [hz2]; omega) (by unfold maxLen; omega) (Nat.le_refl _) ?_))
  intro w2 hown hg
  have HO2 := Lib.hid ((own_made hown hg.size (by decide)).mono HG1.out.size)
  have HC2 := Lib.hid (HC1.out.kept hg (by simp) (fun r hr => by cases hr))
  have HG2 := Lib.hid (grown_trans HG1.out (grown_none (r := some b) hg))
  clear hown hg
  go_wp2_with fail
  refine (below_any B b 3 _ HC2.out (by omega) (by omega)).mono ?_
  rintro e w3 ⟨x, y0, y1, rfl, hc3, hg3⟩
  have HC3 := Lib.hid hc3
  have HO3 := Lib.hid (HO2.out.cur HLt.out.2 hg3)
  have HG3 := Lib.hid (grown_trans HG2.out hg3)
  obtain ⟨m, rfl⟩ : ∃ n : Nat, x = (n : Int) := ⟨x.toNat, by omega⟩
  have hm2 : m ≤ 2 := by omega
  have HGs := Lib.hid HG1.out.size
  clear hc3 hg3 HC2 HO2 HG2
  go_wp2_with fail
  go_loopw [4] (fun i wr => ∃ (j : Nat) (zs : List Int), i = .int .i64 j ∧ j ≤ 2 ∧ zs.length = n ∧ Own 3 .i64 w.heap.size wr (.slice (some ⟨w1.heap.size, 0, none⟩) n n) zs ∧ Cur B b wr ∧ w.grownBy wr (some b)) (fun i _ => (intOf i).toNat)
  case atStart => exact ⟨m, _, rfl, hm2, by simp, HO3.out, HC3.out, HG3.out⟩
  case round =>
    obtain ⟨j, zs, rfl, hj, hl, hO, hC, hG⟩ := hrel
    have HO := Lib.hid hO
    have HC := Lib.hid hC
    have HG := Lib.hid hG
    have HL := Lib.hid hl
    clear hO hC hG hl HO3 HC3 HG3
    by_cases hlt : 0 < j ∧ 0 < n
    · obtain ⟨hlj, hln⟩ := hlt
      have e1 : decide ((0 : Int) < (j : Int)) = true := decide_eq_true (by omega)
      have e2 : decide ((0 : Int) < (n : Int)) = true := decide_eq_true (by omega)
      go_wp2_with fail
      refine (below_any B b (n : Int) _ HC.out (by omega) (by omega)).mono ?_
      rintro e w4 ⟨x, z0, z1, rfl, hc4, hg4⟩
      have HC4 := Lib.hid hc4
      have HO4 := Lib.hid (HO.out.cur HLt.out.2 hg4)
      have HG4 := Lib.hid (grown_trans HG.out hg4)
      obtain ⟨q, rfl⟩ : ∃ n : Nat, x = (n : Int) := ⟨x.toNat, by omega⟩
      have hqn : q < n := by omega
      have hqn' : (q : Int) < (n : Int) := by omega
      clear hc4 hg4
      go_wp2_with fail
      refine (below_any B b 1019 _ HC4.out (by omega) (by omega)).mono ?_
      rintro e w5 ⟨x, u0, u1, rfl, hc5, hg5⟩
      have HC5 := Lib.hid hc5
      have HO5 := Lib.hid (HO4.out.cur HLt.out.2 hg5)
      have HG5 := Lib.hid (grown_trans HG4.out hg5)
      clear hc5 hg5
      have c1 := HO5.out.cellAt HL.out hqn
      have f1 := HO5.out.free HL.out q
      obtain ⟨p1, p2⟩ := own_setn HO5.out HL.out (x := x) (wf_i64_of (by omega) (by omega)) q
      have P1 := Lib.hid p1
      have P2 := Lib.hid (HC5.out.kept p2 (fun e => by injection e with e; have := HLt.out; have := HGs.out; omega) (fun r e => by injection e with e; have := HLt.out; have := HGs.out; omega))
      have P3 := Lib.hid (grown_own HG5.out p2 (fun r e => by injection e with e; have := HGs.out; omega))
      clear p1 p2
      go_wp2_with fail
      go_roundw
      case rel => exact ⟨j - 1, _, by simp; omega, by omega, by rw [List.length_set]; exact HL.out, P1.out, P2.out, P3.out⟩
      case measure => simp [intOf]; omega
    · by_cases hj0 : 0 < j
      · have hn0 : n = 0 := by omega
        subst hn0
        have e1 : decide ((0 : Int) < (j : Int)) = true := decide_eq_true (by omega)
        clear hlt
        go_wp2_with fail
        go_ret
        exact ⟨_, zs, rfl, HO.out, by have := HL.out; omega, HC.out, HG.out⟩
      · obtain rfl : j = 0 := by omega
        clear hlt
        go_wp2_with fail
        go_ret
        exact ⟨_, zs, rfl, HO.out, by have := HL.out; omega, HC.out, HG.out⟩

set_option maxHeartbeats 2000000 in
/-- spec.l12Any. -/
theorem any12_any (B b : Nat) (w : World) (h : Cur B b w) :
    Calls Try.prog 66 #[.pointer (some ⟨b, 0, none⟩)] w fun e w' => ∃ v zs, e = .returned v ∧ Own 3 .i64 w.heap.size w' v zs ∧ zs.length ≤ 65 ∧ Cur B b w' ∧ w.grownBy w' (some b) := by
  obtain ⟨i0, hi, hz0, hz1, hz2⟩ := info_parts infoi64
  have Hhi := Lib.hid hi
  have H := Lib.hid h
  have HLt := Lib.hid h.lt
  clear h hi
  go_enter Try.func66, Try.ntmps66
  go_wp2_with fail
  refine (vec12_any B b _ H.out).mono ?_
  rintro e w1 ⟨v1, zs, rfl, hO1, hl1, hc1, hg1⟩
  have HO1 := Lib.hid hO1
  have HL1 := Lib.hid hl1
  have HC1 := Lib.hid hc1
  have HG1 := Lib.hid hg1
  clear hO1 hl1 hc1 hg1
  go_wp2_with fail
  refine (below_any B b 8 _ HC1.out (by omega) (by omega)).mono ?_
  rintro e w2 ⟨t, t0, t1, rfl, hc2, hg2⟩
  have HC2 := Lib.hid hc2
  have HO2 := Lib.hid (HO1.out.cur HLt.out.2 hg2)
  have HG2 := Lib.hid (grown_trans HG1.out hg2)
  clear hc2 hg2 HO1 HC1 HG1
  by_cases h0 : t = 0
  · subst h0
    go_wp2_with fail
    refine (int_alloc B b (-1) 1019 [-1, 1019] _ 2 _ HC2.out rfl (by omega) (by omega) (by decide)).mono ?_
    rintro e w3 ⟨x, x0, x1, rfl, hc3, hg3⟩
    have HC3 := Lib.hid (hc3.alloc (.cells #[.int .i64 x] 3))
    have HO3 := Lib.hid ((HO2.out.cur HLt.out.2 hg3).alloc (.cells #[.int .i64 x] 3))
    have HG3 := Lib.hid (grown_trans HG2.out (grown_trans hg3 (World.grownBy_alloc w3 (.cells #[.int .i64 x] 3) (some b))))
    have R3 := Lib.hid (Rd.one 3 .i64 w3 x (wf_i64_of (by omega) (by omega)))
    have HLe : Hid ((zs.length + [x].length) * 8 ≤ 140737488355328) := Lib.hid (by have := HL1.out; simp only [List.length_singleton]; omega)
    clear hc3 hg3 HO2 HC2 HG2
    go_wp2_with (first | (at_builtin; refine append_rd _ rfl _ _ 25 rfl 3 i0 (.int .i64 0) 8 Try.underlying25 Hhi.out hz0 hz1 hz2 rfl (by omega) rfl HO3.out rfl R3.out HLe.out ?_))
    intro v4 w4 h4 h5
    have hr := fun r hr => (HO3.out.lt r hr).1
    have HC4 := Lib.hid (HC3.out.kept h5 (fun e => by have := hr _ e; have := HLt.out; omega) (fun r e => by have := hr r e; have := HLt.out; omega))
    have HG4 := Lib.hid (grown_own HG3.out h5 hr)
    have H4 := Lib.hid h4
    clear h4 h5 hr
    go_wp2_with fail
    go_ret
    exact ⟨_, zs ++ [x], rfl, H4.out, by have := HL1.out; simp; omega, HC4.out, HG4.out⟩
  · have e1 : (t == 0) = false := beq_eq_false_iff_ne.2 h0
    by_cases h1 : t = 1
    · subst h1
      go_wp2_with fail
      refine (below_any B b 2 _ HC2.out (by omega) (by omega)).mono ?_
      rintro e w3 ⟨x, x0, x1, rfl, hc3, hg3⟩
      have HC3 := Lib.hid hc3
      have HG3 := Lib.hid (grown_trans HG2.out hg3)
      obtain ⟨n, hn⟩ : ∃ n : Nat, 64 + x = (n : Int) := ⟨(64 + x).toNat, by omega⟩
      have hn65 : n ≤ 65 := by omega
      clear hc3 hg3
      go_wp2_with (first | (at_make; refine wpList_make_full _ rfl _ _ 25 rfl w3.heap.size 3 i0 (.int .i64 0) 1 Try.underlying25 Hhi.out hz0 hz1 .i64 .i64 _ _ n rfl rfl rfl rfl (by rw [hz2]; omega) (by unfold maxLen; omega) (Nat.le_refl _) ?_))
      intro w4 hown hg
      have HO4 := Lib.hid ((own_made hown hg.size (by decide)).mono HG3.out.size)
      have HC4 := Lib.hid (HC3.out.kept hg (by simp) (fun r hr => by cases hr))
      have HG4 := Lib.hid (grown_trans HG3.out (grown_none (r := some b) hg))
      clear hown hg
      go_wp2_with fail
      go_ret
      exact ⟨_, _, rfl, HO4.out, by simp; omega, HC4.out, HG4.out⟩
    · have e2 : (t == 1) = false := beq_eq_false_iff_ne.2 h1
      go_wp2_with fail
      go_ret
      exact ⟨_, _, rfl, HO2.out, by have := HL1.out; omega, HC2.out, HG2.out⟩

end Go.Proofs.Ytckhmjdhdoomdaa
