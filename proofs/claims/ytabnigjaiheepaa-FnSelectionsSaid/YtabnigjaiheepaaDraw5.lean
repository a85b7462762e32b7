/- Chapter 5's draws. No conditions. -/
import Derived.Test.YtabnigjaiheepaaDrawX
import Derived.Test.YtabnigjaiheepaaSel4
import Derived.Test.YtabnigjaiheepaaSel6
import Derived.Test.YtabnigjaiheepaaBent
namespace Go.Proofs.Ytabnigjaiheepaa
open Go Go.RowKit
set_option linter.unusedVariables false

/-- A list of integers that is drawn. -/
def IntsOut (B b hi : Nat) (w : World) (e : Ending) (w' : World) : Prop :=
  ∃ v zs, e = .returned v ∧ Own 3 .i64 w.heap.size w' v zs ∧ zs.length ≤ hi ∧ Cur B b w' ∧ w.grownBy w' (some b)

set_option maxHeartbeats 1000000 in
/-- spec.l5Any. -/
theorem any5 (B b : Nat) (w : World) (h : Cur B b w) :
    Calls Try.prog 69 #[.pointer (some ⟨b, 0, none⟩)] w (IntsOut B b 65 w) := by
  obtain ⟨i0, hi, hz0, hz1, hz2⟩ := info_parts infoi64
  have Hhi := Lib.hid hi
  have H := Lib.hid h
  have HLt := Lib.hid h.lt.2
  clear h hi
  go_enter Try.func69, Try.ntmps69
  go_wp2_with fail
  refine (below_any B b 999 _ H.out (by omega) (by omega)).mono ?_
  rintro e w1 ⟨x, x0, x1, rfl, hc1, hg1⟩
  have HC1 := Lib.hid hc1
  have HG1 := Lib.hid hg1
  clear hc1 hg1
  go_wp2_with fail
  refine (int_alloc B b 0 64 [0, 1, 4, 8, 9, 64] _ 6 _ HC1.out rfl (by omega) (by omega) (by decide)).mono ?_
  rintro e w2 ⟨y, y0, y1, rfl, hc2, hg2⟩
  have HC2 := Lib.hid hc2
  have HG2 := Lib.hid (grown_trans HG1.out hg2)
  clear hc2 hg2 HC1 HG1
  go_wp2_with fail
  refine (spec_rs (k := x) (n := y) (wf_i64_of (by omega) (by omega)) (wf_i64_of (by omega) (by omega))).mono ?_
  rintro e w3 ⟨v3, rfl, hO3, hb3⟩
  have hl3 := rsl_len x y
  obtain ⟨zs, hzs⟩ : ∃ zs, zs = rsl x y := ⟨_, rfl⟩
  rw [← hzs] at hO3 hl3
  have HO3 := Lib.hid (hO3.mono HG2.out.size)
  have HC3 := Lib.hid (HC2.out.kept (grown_of_below hb3) (by simp) (fun r hr => by cases hr))
  have HG3 := Lib.hid (grown_trans HG2.out (grown_none (grown_of_below hb3)))
  have HL3 : Hid (zs.length ≤ 65) := Lib.hid (by omega)
  obtain ⟨a3, c3, rfl, hp3⟩ := HO3.out.open
  have Hp3 := Lib.hid hp3
  clear hO3 hb3 hzs hp3 HC2 HG2
  by_cases hp : 0 < zs.length
  · have e1 : decide ((0 : Int) < (zs.length : Int)) = true := by simp; omega
    obtain ⟨g, rfl⟩ := Hp3.out hp
    go_wp2_with fail
    refine (once_any B b 6 _ HC3.out (by omega) (by omega)).mono ?_
    rintro e w4 ⟨t4, rfl, hc4, hg4⟩
    have HO4 := Lib.hid (HO3.out.cur HLt.out hg4)
    have HC4 := Lib.hid hc4
    have HG4 := Lib.hid (grown_trans HG3.out hg4)
    clear hc4 hg4
    cases t4
    · go_wp2_with fail
      refine (once_any B b 12 _ HC4.out (by omega) (by omega)).mono ?_
      rintro e w8 ⟨t8, rfl, hc8, hg8⟩
      have HO8 := Lib.hid (HO4.out.cur HLt.out hg8)
      have HC8 := Lib.hid hc8
      have HG8 := Lib.hid (grown_trans HG4.out hg8)
      clear hc8 hg8
      cases t8
      · go_wp2_with fail
        go_ret
        exact ⟨_, _, rfl, HO8.out, HL3.out, HC8.out, HG8.out⟩
      · go_wp2_with (first | (at_make; refine wpList_make_full _ rfl _ _ 24 rfl w8.heap.size 3 i0 (.int .i64 0) 1 Try.underlying24 Hhi.out hz0 hz1 .i64 .i64 _ _ 65 rfl rfl rfl rfl (by rw [hz2]; omega) (by unfold maxLen; omega) (Nat.le_refl _) ?_))
        intro w9 hown hg9
        have HO9 := Lib.hid ((own_made hown hg9.size (by decide)).mono HG8.out.size)
        have HC9 := Lib.hid (HC8.out.kept hg9 (by simp) (fun r hr => by cases hr))
        have HG9 := Lib.hid (grown_trans HG8.out (grown_none hg9))
        clear hown hg9
        go_wp2_with fail
        go_ret
        exact ⟨_, _, rfl, HO9.out, by rw [List.length_replicate]; omega, HC9.out, HG9.out⟩
    · go_wp2_with fail
      refine (below_any B b _ _ HC4.out (by omega) (by omega)).mono ?_
      rintro e w5 ⟨x5, x50, x51, rfl, hc5, hg5⟩
      obtain ⟨j, rfl⟩ : ∃ j : Nat, x5 = (j : Int) := ⟨x5.toNat, by omega⟩
      have hj : j < zs.length := by omega
      have HC5 := Lib.hid hc5
      have HO5 := Lib.hid (HO4.out.cur HLt.out hg5)
      have HG5 := Lib.hid (grown_trans HG4.out hg5)
      clear hc5 hg5
      go_wp2_with fail
      refine (int_alloc B b (-1) 2 [-1, 2] _ 2 _ HC5.out rfl (by omega) (by omega) (by decide)).mono ?_
      rintro e w6 ⟨y6, y60, y61, rfl, hc6, hg6⟩
      have HO6 := Lib.hid (HO5.out.cur HLt.out hg6)
      have HG6 := Lib.hid (grown_trans HG5.out hg6)
      have HC6 := Lib.hid hc6
      have c6 := HO6.out.cellAt rfl hj
      have f6 := HO6.out.free rfl j
      clear hc6 hg6
      go_wp2_with fail
      obtain ⟨p1, p2⟩ := HO6.out.set (x := y6) (wf_i64_of (by omega) (by omega)) j
      have hgl := HO6.out.lt g rfl
      have HO7 := Lib.hid (show Own 3 .i64 w.heap.size (w6.setCell ⟨g, j, none⟩ (.int .i64 y6)) (.slice (some ⟨g, 0, none⟩) zs.length c3) (zs.set j y6) from p1)
      have HC7 := Lib.hid (HC6.out.kept p2 (fun e => by injection e with e; have := HLt.out; omega) (fun r hr => by injection hr with hr; have := HC6.out.lt; have := HLt.out; omega))
      have HG7 := Lib.hid (grown_own HG6.out p2 (fun r hr => by injection hr with hr; omega))
      have HL7 : Hid ((zs.set j y6).length ≤ 65) := Lib.hid (by rw [List.length_set]; exact HL3.out)
      obtain ⟨W7, hW7⟩ : ∃ W7, W7 = w6.setCell ⟨g, j, none⟩ (.int .i64 y6) := ⟨_, rfl⟩
      rw [← hW7] at HO7 HC7 HG7 ⊢
      clear hW7 p1 p2 c6 f6 hgl HO6 HC6 HG6
      go_wp2_with fail
      refine (once_any B b 12 _ HC7.out (by omega) (by omega)).mono ?_
      rintro e w8 ⟨t8, rfl, hc8, hg8⟩
      have HO8 := Lib.hid (HO7.out.cur HLt.out hg8)
      have HC8 := Lib.hid hc8
      have HG8 := Lib.hid (grown_trans HG7.out hg8)
      clear hc8 hg8
      cases t8
      · go_wp2_with fail
        go_ret
        exact ⟨_, _, rfl, HO8.out, HL7.out, HC8.out, HG8.out⟩
      · go_wp2_with (first | (at_make; refine wpList_make_full _ rfl _ _ 24 rfl w8.heap.size 3 i0 (.int .i64 0) 1 Try.underlying24 Hhi.out hz0 hz1 .i64 .i64 _ _ 65 rfl rfl rfl rfl (by rw [hz2]; omega) (by unfold maxLen; omega) (Nat.le_refl _) ?_))
        intro w9 hown hg9
        have HO9 := Lib.hid ((own_made hown hg9.size (by decide)).mono HG8.out.size)
        have HC9 := Lib.hid (HC8.out.kept hg9 (by simp) (fun r hr => by cases hr))
        have HG9 := Lib.hid (grown_trans HG8.out (grown_none hg9))
        clear hown hg9
        go_wp2_with fail
        go_ret
        exact ⟨_, _, rfl, HO9.out, by rw [List.length_replicate]; omega, HC9.out, HG9.out⟩
  · have e1 : decide ((0 : Int) < (zs.length : Int)) = false := decide_eq_false (by omega)
    go_wp2_with fail
    refine (once_any B b 12 _ HC3.out (by omega) (by omega)).mono ?_
    rintro e w8 ⟨t8, rfl, hc8, hg8⟩
    have HO8 := Lib.hid (HO3.out.cur HLt.out hg8)
    have HC8 := Lib.hid hc8
    have HG8 := Lib.hid (grown_trans HG3.out hg8)
    clear hc8 hg8
    cases t8
    · go_wp2_with fail
      go_ret
      exact ⟨_, _, rfl, HO8.out, HL3.out, HC8.out, HG8.out⟩
    · go_wp2_with (first | (at_make; refine wpList_make_full _ rfl _ _ 24 rfl w8.heap.size 3 i0 (.int .i64 0) 1 Try.underlying24 Hhi.out hz0 hz1 .i64 .i64 _ _ 65 rfl rfl rfl rfl (by rw [hz2]; omega) (by unfold maxLen; omega) (Nat.le_refl _) ?_))
      intro w9 hown hg9
      have HO9 := Lib.hid ((own_made hown hg9.size (by decide)).mono HG8.out.size)
      have HC9 := Lib.hid (HC8.out.kept hg9 (by simp) (fun r hr => by cases hr))
      have HG9 := Lib.hid (grown_trans HG8.out (grown_none hg9))
      clear hown hg9
      go_wp2_with fail
      go_ret
      exact ⟨_, _, rfl, HO9.out, by rw [List.length_replicate]; omega, HC9.out, HG9.out⟩

/-- spec.DrawCountSelected. -/
theorem draw_cs (B : Nat) (a : Option Addr) (len cap : Nat) (zs : List Int) (w : World) (hB : B ≤ w.heap.size) (hrow : RowB B .u8 w a len cap zs) (hl : len ≤ maxLen) :
    Calls Try.prog 49 #[.slice a len cap] w fun e w' => ∃ v zs, e = .returned v ∧ Own 3 .i64 w.heap.size w' v zs ∧ zs.length ≤ 65 ∧ Below w.heap.size w w' := by
  have HR := Lib.hid hrow
  clear hrow
  go_enter Try.func49, Try.ntmps49
  go_wp2_with fail
  refine (new_any B a len cap zs _ hB HR.out hl).mono ?_
  rintro e w1 ⟨rfl, hc, hg⟩
  have HC := Lib.hid hc
  have HG := Lib.hid (grown_none (r := some w.heap.size) hg)
  clear hc hg
  go_wp2_with fail
  refine (any5 B w.heap.size _ HC.out).mono ?_
  rintro e w2 ⟨v, ys, rfl, hO, hl2, hc2, hg2⟩
  have HO := Lib.hid (hO.mono HG.out.size)
  have HG2 := Lib.hid (below_of_grown (B := w.heap.size) (grown_trans HG.out hg2) (Nat.le_refl _) (Nat.le_refl _))
  clear hO hc2 hg2
  go_wp2_with fail
  go_ret
  exact ⟨_, ys, rfl, HO.out, hl2, HG2.out⟩

/-- spec.DrawPackSelection. -/
theorem draw_pk (B : Nat) (a : Option Addr) (len cap : Nat) (zs : List Int) (w : World) (hB : B ≤ w.heap.size) (hrow : RowB B .u8 w a len cap zs) (hl : len ≤ maxLen) :
    Calls Try.prog 13 #[.slice a len cap] w fun e w' => ∃ v zs, e = .returned v ∧ Own 3 .i64 w.heap.size w' v zs ∧ zs.length ≤ 65 ∧ Below w.heap.size w w' := by
  have HR := Lib.hid hrow
  clear hrow
  go_enter Try.func13, Try.ntmps13
  go_wp2_with fail
  refine (draw_cs B a len cap zs _ hB HR.out hl).mono ?_
  rintro e w1 ⟨v, ys, rfl, hO, hl2, hb⟩
  have HO := Lib.hid hO
  have HB := Lib.hid hb
  clear hO hb
  go_wp2_with fail
  go_ret
  exact ⟨_, ys, rfl, HO.out, hl2, HB.out⟩

/-- spec.DrawUnpackSelection. -/
theorem draw_un (B : Nat) (a : Option Addr) (len cap : Nat) (zs : List Int) (w : World) (hB : B ≤ w.heap.size) (hrow : RowB B .u8 w a len cap zs) (hl : len ≤ maxLen) :
    Calls Try.prog 16 #[.slice a len cap] w fun e w' => ∃ v zs, e = .returned v ∧ Rd w'.heap.size .u8 w' v zs ∧ zs.length ≤ 10 ∧ Below w.heap.size w w' := by
  have HR := Lib.hid hrow
  clear hrow
  go_enter Try.func16, Try.ntmps16
  go_wp2_with fail
  refine (new_any B a len cap zs _ hB HR.out hl).mono ?_
  rintro e w1 ⟨rfl, hc, hg⟩
  have HC := Lib.hid hc
  have HG := Lib.hid (grown_none (r := some w.heap.size) hg)
  clear hc hg
  go_wp2_with fail
  refine (below_any B w.heap.size 999 _ HC.out (by omega) (by omega)).mono ?_
  rintro e w2 ⟨x, x0, x1, rfl, hc2, hg2⟩
  have HC2 := Lib.hid hc2
  have HG2 := Lib.hid (grown_trans HG.out hg2)
  clear hc2 hg2
  go_wp2_with fail
  refine (below_any B w.heap.size 20 _ HC2.out (by omega) (by omega)).mono ?_
  rintro e w3 ⟨y, y0, y1, rfl, hc3, hg3⟩
  have HC3 := Lib.hid hc3
  have HG3 := Lib.hid (grown_trans HG2.out hg3)
  clear hc3 hg3
  go_wp2_with fail
  refine (spec_rs (k := x) (n := y) (wf_i64_of (by omega) (by omega)) (wf_i64_of (by omega) (by omega))).mono ?_
  rintro e w4 ⟨v4, rfl, hO4, hb4⟩
  have HO4 := Lib.hid hO4
  have HC4 := Lib.hid (HC3.out.kept (grown_of_below hb4) (by simp) (fun r hr => by cases hr))
  have HG4 := Lib.hid (grown_trans HG3.out (grown_none (grown_of_below hb4)))
  clear hO4 hb4
  go_wp2_with fail
  refine (spec_pk HO4.out.rd (Nat.le_refl _)).mono ?_
  have hpl := packV_len (rsl x y)
  rintro e w5 ⟨v5, rfl, hO5, hb5⟩
  obtain ⟨ys, hys⟩ : ∃ ys, ys = packV (rsl x y) := ⟨_, rfl⟩
  rw [← hys] at hO5 hpl
  have HO5 := Lib.hid hO5
  have HC5 := Lib.hid (HC4.out.kept (grown_of_below hb5) (by simp) (fun r hr => by cases hr))
  have HG5 := Lib.hid (grown_trans HG4.out (grown_none (grown_of_below hb5)))
  have hb4 : w.heap.size < w4.heap.size := HC4.out.lt.2
  clear hO5 hb5 hys
  go_wp2_with fail
  refine (once_any B w.heap.size 2 _ HC5.out (by omega) (by omega)).mono ?_
  rintro e w6 ⟨t6, rfl, hc6, hg6⟩
  have HO6 := Lib.hid (HO5.out.cur hb4 hg6).rd
  have HC6 := Lib.hid hc6
  have HG6 := Lib.hid (grown_trans HG5.out hg6)
  clear hc6 hg6 HO5
  cases t6
  · have HB6 := Lib.hid (below_of_grown (B := w.heap.size) HG6.out (Nat.le_refl _) (Nat.le_refl _))
    go_wp2_with fail
    go_ret
    exact ⟨_, ys, rfl, HO6.out, by omega, HB6.out⟩
  · go_wp2_with fail
    refine (bent_any B w.heap.size w6.heap.size _ _ ys HC6.out HO6.out (Nat.le_refl _) (by omega)).mono ?_
    rintro e w7 ⟨v7, zs7, rfl, hR7, hl7, hc7, hg7⟩
    have HR7 := Lib.hid hR7
    have HB7 := Lib.hid (below_of_grown (B := w.heap.size) (grown_trans HG6.out hg7) (Nat.le_refl _) (Nat.le_refl _))
    clear hR7 hc7 hg7
    go_wp2_with fail
    go_ret
    exact ⟨_, zs7, rfl, HR7.out, by omega, HB7.out⟩

/-- spec.DrawSelectXor. -/
theorem draw_sx (B : Nat) (a : Option Addr) (len cap : Nat) (zs : List Int) (w : World) (hB : B ≤ w.heap.size) (hrow : RowB B .u8 w a len cap zs) (hl : len ≤ maxLen) :
    Calls Try.prog 21 #[.slice a len cap] w fun e w' => ∃ v u zss ys E, e = .returned (.tuple #[v, u]) ∧ Own2 22 5 .u8 (ival w.heap.size E) w' v zss ∧ zss.length ≤ 4 ∧ fl zss ≤ 5 * zss.length ∧ Own 3 .i64 E w' u ys ∧ ys.length ≤ 64 ∧ Below w.heap.size w w' := by
  have HR := Lib.hid hrow
  clear hrow
  go_enter Try.func21, Try.ntmps21
  go_wp2_with fail
  refine (new_any B a len cap zs _ hB HR.out hl).mono ?_
  rintro e w1 ⟨rfl, hc, hg⟩
  have HC := Lib.hid hc
  have HLt := Lib.hid hc.lt.2
  have HG := Lib.hid (grown_none (r := some w.heap.size) hg)
  clear hc hg
  go_wp2_with fail
  refine (list_any B w.heap.size _ HC.out).mono ?_
  rintro e w2 ⟨v, zss, rfl, hO, l1, l2, hc2, hg2⟩
  have HL2 := Lib.hid l2
  have HO2 := Lib.hid hO
  have HC2 := Lib.hid hc2
  have HG2 := Lib.hid (grown_trans HG.out hg2)
  have HSb : Hid (w.heap.size < w2.heap.size) := Lib.hid (Nat.lt_of_lt_of_le HLt.out hg2.size)
  clear hO hc2 hg2 l2
  go_wp2_with fail
  refine (below_any B w.heap.size 999 _ HC2.out (by omega) (by omega)).mono ?_
  rintro e w3 ⟨x, x0, x1, rfl, hc3, hg3⟩
  have HC3 := Lib.hid hc3
  have HO3 := Lib.hid (HO2.out.cur HLt.out hg3)
  have HS3 := Lib.hid hg3.size
  have HG3 := Lib.hid (grown_trans HG2.out hg3)
  clear hc3 hg3
  go_wp2_with fail
  refine (below_any B w.heap.size 7 _ HC3.out (by omega) (by omega)).mono ?_
  rintro e w4 ⟨y, y0, y1, rfl, hc4, hg4⟩
  have HC4 := Lib.hid hc4
  have HO4 := Lib.hid (HO3.out.cur HLt.out hg4)
  have HS4 := Lib.hid (Nat.le_trans HS3.out hg4.size)
  have HG4 := Lib.hid (grown_trans HG3.out hg4)
  clear hc4 hg4
  go_wp2_with fail
  refine (spec_rs (k := x) (n := y) (wf_i64_of (by omega) (by omega)) (wf_i64_of (by omega) (by omega))).mono ?_
  rintro e w5 ⟨v5, rfl, hO5, hb5⟩
  have hl5 := rsl_len x y
  obtain ⟨ys, hys⟩ : ∃ ys, ys = rsl x y := ⟨_, rfl⟩
  rw [← hys] at hO5 hl5
  have HV5 := Lib.hid (hO5.mono HS4.out)
  have HO5 := Lib.hid (HO4.out.next hb5)
  have HC5 := Lib.hid (HC4.out.kept (grown_of_below hb5) (by simp) (fun r hr => by cases hr))
  have HG5 := Lib.hid (grown_trans HG4.out (grown_none (grown_of_below hb5)))
  obtain ⟨a5, c5, rfl, hp5⟩ := HV5.out.open
  have Hp5 := Lib.hid hp5
  have HO5' := HO5
  clear hO5 hb5 hys hp5 HO5 HO4 HO3 HO2 HC4 HC3 HC2 HG4 HG3 HG2
  by_cases hp : 0 < ys.length
  · have e1 : decide ((0 : Int) < (ys.length : Int)) = true := decide_eq_true (by omega)
    obtain ⟨g, rfl⟩ := Hp5.out hp
    go_wp2_with fail
    refine (once_any B w.heap.size 8 _ HC5.out (by omega) (by omega)).mono ?_
    rintro e w6 ⟨t6, rfl, hc6, hg6⟩
    have HV6 := Lib.hid (HV5.out.cur HSb.out hg6)
    have HO6 := Lib.hid (HO5'.out.keptF (KeptF.of_grown (F := fun y => y = w.heap.size) hg6 (fun y hy => by injection hy with hy; exact hy.symm)) (fun y hy hy2 => by have := HLt.out; unfold ival at hy; omega))
    have HG6 := Lib.hid (grown_trans HG5.out hg6)
    clear hc6 hg6 HV5 HO5'
    cases t6
    · have HB6 := Lib.hid (below_of_grown (B := w.heap.size) HG6.out (Nat.le_refl _) (Nat.le_refl _))
      go_wp2_with fail
      go_ret2
      exact ⟨_, _, zss, ys, w2.heap.size, rfl, HO6.out.mono (fun y hy => by have := HLt.out; unfold ival at hy ⊢; omega), l1, HL2.out, HV6.out, hl5, HB6.out⟩
    · have c6 := HV6.out.cellAt rfl hp
      have f6 := HV6.out.free rfl 0
      go_wp2_with fail
      obtain ⟨p1, p2⟩ := HV6.out.set (x := 2) (by decide) 0
      have hgl := HV6.out.lt g rfl
      have HV7 := Lib.hid (show Own 3 .i64 w2.heap.size (w6.setCell ⟨g, 0, none⟩ (.int .i64 2)) (.slice (some ⟨g, 0, none⟩) ys.length c5) (ys.set 0 2) from p1)
      have HO7 := Lib.hid (HO6.out.keptF (KeptF.of_grown (F := fun y => y = g) p2 (fun y hy => by injection hy with hy; exact hy.symm)) (fun y hy hy2 => by unfold ival at hy; omega))
      have HG7 := Lib.hid (grown_own HG6.out p2 (fun r hr => by injection hr with hr; have := HSb.out; omega))
      have HB7 := Lib.hid (below_of_grown (B := w.heap.size) HG7.out (Nat.le_refl _) (Nat.le_refl _))
      obtain ⟨W7, hW7⟩ : ∃ W7, W7 = w6.setCell ⟨g, 0, none⟩ (.int .i64 2) := ⟨_, rfl⟩
      rw [← hW7] at HV7 HO7 HB7 ⊢
      clear hW7 p1 p2 c6 f6 hgl HO6 HV6 HG6 HG7
      go_ret2
      exact ⟨_, _, zss, _, w2.heap.size, rfl, HO7.out.mono (fun y hy => by have := HLt.out; unfold ival at hy ⊢; omega), l1, HL2.out, HV7.out, by rw [List.length_set]; exact hl5, HB7.out⟩
  · have e1 : decide ((0 : Int) < (ys.length : Int)) = false := decide_eq_false (by omega)
    have HB6 := Lib.hid (below_of_grown (B := w.heap.size) HG5.out (Nat.le_refl _) (Nat.le_refl _))
    go_wp2_with fail
    go_ret2
    exact ⟨_, _, zss, ys, w2.heap.size, rfl, HO5'.out.mono (fun y hy => by have := HLt.out; unfold ival at hy ⊢; omega), l1, HL2.out, HV5.out, hl5, HB6.out⟩

end Go.Proofs.Ytabnigjaiheepaa
