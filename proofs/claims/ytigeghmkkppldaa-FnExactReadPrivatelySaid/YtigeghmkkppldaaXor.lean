/- XorBytes, the program's and the document's: what each gives. No conditions but a length that a machine holds. -/
import Derived.Test.YtigeghmkkppldaaRows
import Derived.Test.YtigeghmkkppldaaBa1
import Derived.Test.YtigeghmkkppldaaBa3
import Derived.Test.YtigeghmkkppldaaEnc
import Derived.Test.YtigeghmkkppldaaBa8
import Derived.Test.YtigeghmkkppldaaBa7
import Derived.Test.YtigeghmkkppldaaBaM
import Derived.WalkKit
import Derived.Handy
import Derived.Outline
import Derived.WalkSpells
import Derived.Deep.QuietTactic
import Derived.BigQuiet
import Derived.Lib.Hide
namespace Go.Proofs.Ytigeghmkkppldaa
open Go Go.RowKit
set_option linter.unusedVariables false

/-- The smaller one. -/
def mn (a b : Int) : Int := if b < a then b else a
theorem mn_lt {a b : Int} (h : b < a) : mn a b = b := if_pos h
theorem mn_ge {a b : Int} (h : ¬ b < a) : mn a b = a := if_neg h
theorem mn_nat (a b : Nat) : mn (a : Int) (b : Int) = ((min a b : Nat) : Int) := by unfold mn; split <;> omega

theorem impl_mn (a b : Int) (w : World) (ha : (Lit.int .i64 a).wf = true) (hb : (Lit.int .i64 b).wf = true) :
    Calls Try.prog 88 #[.int .i64 a, .int .i64 b] w fun e w' => e = .returned (.int .i64 (mn a b)) ∧ Below w.heap.size w w' := by
  by_cases h1 : b < a
  · have hv := Lib.hid (mn_lt h1)
    go_enter Try.func88, Try.ntmps88
    go_wp2
    go_rounds 2
    all_goals go_ret
    all_goals exact ⟨rint hv.out.symm, (Below.refl w.heap.size w).alloc (Nat.le_refl _) _⟩
  · have hv := Lib.hid (mn_ge h1)
    go_enter Try.func88, Try.ntmps88
    go_wp2
    go_rounds 2
    all_goals go_ret
    all_goals exact ⟨rint hv.out.symm, (Below.refl w.heap.size w).alloc (Nat.le_refl _) _⟩

set_option maxHeartbeats 1000000 in
/-- spec.XorBytes. -/
theorem spec_xb {l1 l2 : Nat} {w : World} {u v : Value} {xs ys : List Int} (hu : Rd l1 .u8 w u xs) (hv : Rd l2 .u8 w v ys) (hl1 : l1 ≤ w.heap.size) (hl2 : l2 ≤ w.heap.size) (hn : xs.length + ys.length ≤ 140737488355328) :
    Calls Try.prog 73 #[u, v] w fun e w' => ∃ v', e = .returned v' ∧ Own 5 .u8 w.heap.size w' v' (xorl xs ys) ∧ Below w.heap.size w w' := by
  obtain ⟨i0, hi, hz0, hz1, hz2⟩ := info_parts infou8
  have Hhi := Lib.hid hi
  have HX := Lib.hid hu.u8s
  have HY := Lib.hid hv.u8s
  obtain ⟨a, cap, rfl, h1, h2, hc⟩ := hu.open
  obtain ⟨a', cap', rfl, h1', h2', hc'⟩ := hv.open
  have Hc := Lib.hid hc
  have Hc' := Lib.hid hc'
  unfold maxLen at h2 h2'
  clear hu hv hc hc' hi
  have HL := Lib.hid (xorl_len_le xs ys)
  have HO : Hid (Own 5 .u8 w.heap.size (w.alloc (.cells #[] 5)) (.slice (some ⟨w.heap.size, 0, none⟩) 0 0) ((xorl xs ys).take 0)) := Lib.hid (Own.lit _ _ (Nat.le_refl _))
  go_enter Try.func73, Try.ntmps73
  go_wp2_with fail
  go_loopw [5, 6] (fun s i wr => ∃ j : Nat, i = .int .i64 j ∧ j ≤ max xs.length ys.length ∧ Own 5 .u8 w.heap.size wr s ((xorl xs ys).take j) ∧ Below w.heap.size w wr) (fun _ i _ => max xs.length ys.length - (intOf i).toNat)
  case atStart => exact ⟨0, rfl, Nat.zero_le _, HO.out, (Below.refl _ _).alloc (Nat.le_refl _) _⟩
  case round =>
    obtain ⟨j, rfl, hj, hO, hB⟩ := hrel
    have HO' := Lib.hid hO
    have HB := Lib.hid hB
    clear hO hB HO
    by_cases hend : j < max xs.length ys.length
    · have HT := Lib.hid (xorl_take_succ xs ys hend)
      have HG := Lib.hid (bx_bound (HX.out.get j) (HY.out.get j))
      have HTl : Hid (((xorl xs ys).take j).length ≤ xs.length + ys.length) := Lib.hid (by have := HL.out; rw [List.length_take]; omega)
      have HN := Lib.hid hn
      have HE := Lib.hid hend
      by_cases hx : j < xs.length
      · have e1 : decide ((j : Int) < (xs.length : Int)) = true := by simp; omega
        obtain ⟨b, o, rfl, hbl, hcell⟩ := Hc.out (by omega)
        have c1 := hcell wr (HB.out.mono hl1) j hx
        clear hcell
        by_cases hy : j < ys.length
        · have e2 : decide ((j : Int) < (ys.length : Int)) = true := by simp; omega
          obtain ⟨b', o', rfl, hbl', hcell'⟩ := Hc'.out (by omega)
          have c2 := hcell' wr (HB.out.mono hl2) j hy
          have e3 := u8_xor (HX.out.get j) (HY.out.get j)
          clear hcell'
          obtain ⟨m, hm⟩ : ∃ m, m = bx (xs.getD j 0) (ys.getD j 0) := ⟨_, rfl⟩
          rw [← hm] at e3
          have HM := Lib.hid hm
          obtain ⟨z, hz⟩ : ∃ z, z = xs.getD j 0 := ⟨_, rfl⟩
          obtain ⟨z', hz'⟩ : ∃ z, z = ys.getD j 0 := ⟨_, rfl⟩
          rw [← hz] at c1 e3
          rw [← hz'] at c2 e3
          clear hm hz hz' hend hn
          go_wp2_with (first | (at_builtin; refine append_rd _ rfl _ _ 22 rfl 5 i0 (.int .u8 0) 1 Try.underlying22 Hhi.out hz0 hz1 hz2 rfl (by omega) rfl (HO'.out.alloc _) rfl (Rd.one _ _ _ m (by have := HG.out; rw [← HM.out] at this; exact wf_u8_of this.1 this.2)) (by have h1 := HTl.out; have h2 := HN.out; have h3 := HE.out; rw [List.length_take] at h1 ⊢; simp only [List.length_singleton]; have h4 := xorl_len xs ys; omega) ?_))
          intro v1 w1 h3 h4
          rw [HM.out, HT.out] at h3
          have H3 := Lib.hid h3
          have H4 := Lib.hid (HB.out.trans ((((Below.refl w.heap.size wr).alloc HO'.out.2.1 _).trans ((HO'.out.alloc _).below (Nat.le_refl _) h4))))
          have hend := HE.out
          clear h3 h4
          go_wp2
          go_roundw
          case rel => exact ⟨j + 1, by simp, by omega, H3.out, H4.out⟩
          case measure => simp [intOf]; omega
        · have e2 : decide ((j : Int) < (ys.length : Int)) = false := by simp; omega
          have e3 : bx (xs.getD j 0) (ys.getD j 0) = xs.getD j 0 := by rw [getD_out (xs := ys) (by omega), bx_zero (HX.out.get j).1]
          obtain ⟨m, hm⟩ : ∃ m, m = bx (xs.getD j 0) (ys.getD j 0) := ⟨_, rfl⟩
          rw [← e3, ← hm] at c1
          have HM := Lib.hid hm
          clear hm hend hn e3
          go_wp2_with (first | (at_builtin; refine append_rd _ rfl _ _ 22 rfl 5 i0 (.int .u8 0) 1 Try.underlying22 Hhi.out hz0 hz1 hz2 rfl (by omega) rfl (HO'.out.alloc _) rfl (Rd.one _ _ _ m (by have := HG.out; rw [← HM.out] at this; exact wf_u8_of this.1 this.2)) (by have h1 := HTl.out; have h2 := HN.out; have h3 := HE.out; rw [List.length_take] at h1 ⊢; simp only [List.length_singleton]; have h4 := xorl_len xs ys; omega) ?_))
          intro v1 w1 h3 h4
          rw [HM.out, HT.out] at h3
          have H3 := Lib.hid h3
          have H4 := Lib.hid (HB.out.trans ((((Below.refl w.heap.size wr).alloc HO'.out.2.1 _).trans ((HO'.out.alloc _).below (Nat.le_refl _) h4))))
          have hend := HE.out
          clear h3 h4
          go_wp2
          go_roundw
          case rel => exact ⟨j + 1, by simp, by omega, H3.out, H4.out⟩
          case measure => simp [intOf]; omega
      · have e1 : decide ((j : Int) < (xs.length : Int)) = false := by simp; omega
        have hy : j < ys.length := by omega
        have e2 : decide ((j : Int) < (ys.length : Int)) = true := by simp; omega
        obtain ⟨b', o', rfl, hbl', hcell'⟩ := Hc'.out (by omega)
        have c2 := hcell' wr (HB.out.mono hl2) j hy
        have e3 := u8_xor (x := 0) (by omega) (HY.out.get j)
        have e4 : bx (xs.getD j 0) (ys.getD j 0) = bx 0 (ys.getD j 0) := by rw [getD_out (xs := xs) (by omega)]
        clear hcell'
        obtain ⟨m, hm⟩ : ∃ m, m = bx (xs.getD j 0) (ys.getD j 0) := ⟨_, rfl⟩
        rw [← e4, ← hm] at e3
        have HM := Lib.hid hm
        obtain ⟨z', hz'⟩ : ∃ z, z = ys.getD j 0 := ⟨_, rfl⟩
        rw [← hz'] at c2 e3
        clear hm hz' hend hn e4
        go_wp2_with (first | (at_builtin; refine append_rd _ rfl _ _ 22 rfl 5 i0 (.int .u8 0) 1 Try.underlying22 Hhi.out hz0 hz1 hz2 rfl (by omega) rfl (HO'.out.alloc _) rfl (Rd.one _ _ _ m (by have := HG.out; rw [← HM.out] at this; exact wf_u8_of this.1 this.2)) (by have h1 := HTl.out; have h2 := HN.out; have h3 := HE.out; rw [List.length_take] at h1 ⊢; simp only [List.length_singleton]; have h4 := xorl_len xs ys; omega) ?_))
        intro v1 w1 h3 h4
        rw [HM.out, HT.out] at h3
        have H3 := Lib.hid h3
        have H4 := Lib.hid (HB.out.trans ((((Below.refl w.heap.size wr).alloc HO'.out.2.1 _).trans ((HO'.out.alloc _).below (Nat.le_refl _) h4))))
        have hend := HE.out
        clear h3 h4
        go_wp2
        go_roundw
        case rel => exact ⟨j + 1, by simp, by omega, H3.out, H4.out⟩
        case measure => simp [intOf]; omega
    · have e1 : decide ((j : Int) < (xs.length : Int)) = false := by simp; omega
      have e2 : decide ((j : Int) < (ys.length : Int)) = false := by simp; omega
      have HR : Hid (Own 5 .u8 w.heap.size wr _ (xorl xs ys)) := Lib.hid (by
        have := HO'.out
        rw [List.take_of_length_le (by rw [xorl_len]; omega)] at this
        exact this)
      have hx : ¬ j < xs.length := by omega
      have hy : ¬ j < ys.length := by omega
      clear hend
      go_wp2
      go_ret
      exact ⟨_, rfl, HR.out, HB.out⟩

set_option maxHeartbeats 1000000 in
/-- impl.xorInto: the exclusive or, into a row of the call's own. -/
theorem xorInto_any {B lim : Nat} {w : World} {u v : Value} {xs ys : List Int} (hu : Own 5 .u8 B w u xs) (hv : Rd lim .u8 w v ys) (hlim : lim ≤ B) (hn : xs.length + ys.length ≤ 140737488355328) :
    Calls Try.prog 61 #[u, v] w fun e w' => ∃ v', e = .returned v' ∧ Own 5 .u8 B w' v' (xorl xs ys) ∧ Below B w w' := by
  obtain ⟨i0, hi, hz0, hz1, hz2⟩ := info_parts infou8
  have Hhi := Lib.hid hi
  have HX := Lib.hid hu.u8s
  have HY := Lib.hid hv.u8s
  have HV := Lib.hid hv
  have HB0 := Lib.hid hu.2.1
  obtain ⟨a, cap, rfl, ha⟩ := hu.open
  obtain ⟨a', cap', rfl, h1', h2', hc'⟩ := hv.open
  have HO := Lib.hid hu
  have Ha := Lib.hid ha
  have HN := Lib.hid hn
  clear hu hv hc' ha h2' hi
  obtain ⟨c, hc⟩ : ∃ c, c = min xs.length ys.length := ⟨_, rfl⟩
  have Hm : Hid (mn (xs.length : Int) (ys.length : Int) = (c : Int)) := Lib.hid (by rw [mn_nat, hc])
  have hcx : c ≤ xs.length := by omega
  have hcy : c ≤ ys.length := by omega
  have HP := Lib.hid (xorl_parts HX.out HY.out hc)
  clear hc
  go_enter Try.func61, Try.ntmps61
  go_wp2_with fail
  refine (impl_mn _ _ _ (wf_i64_of (by omega) (by omega)) (wf_i64_of (by omega) (by omega))).mono ?_
  rintro e w1 ⟨rfl, hb1⟩
  rw [Hm.out]
  have HO1 := Lib.hid (HO.out.next hb1)
  have HB1 := Lib.hid (hb1.mono HB0.out)
  have HV1 := Lib.hid (HV.out.behind (hb1.mono (Nat.le_trans hlim HB0.out)))
  clear hb1 HO HV
  go_wp2_with (first | (refine slice_rd_h _ rfl _ _ _ i0 Try.underlying22 Hhi.out hz1 rfl HV1.out _ rfl rfl hcy ?_))
  intro u2 hu2
  have hlt2 : (ys.take c).length = c := by rw [List.length_take]; omega
  obtain ⟨a2, cap2, rfl, g1, g2, gc⟩ := hu2.open
  rw [hlt2] at g1 gc ⊢
  have Hgc := Lib.hid gc
  have HU : Hid (Own 5 .u8 B w1 (.slice a xs.length cap) (upt (fun i => bx (xs.getD i 0) (ys.getD i 0)) (fun i => xs.getD i 0) 0 xs.length)) := Lib.hid (by rw [upt_zero, range_getD]; exact HO1.out)
  unfold maxLen at g2
  clear hu2 gc hlt2 HO1
  go_wp2_with fail
  go_loopw [17] (fun i wr => ∃ j : Nat, i = .int .i64 j ∧ j ≤ c ∧ Own 5 .u8 B wr (.slice a xs.length cap) (upt (fun i => bx (xs.getD i 0) (ys.getD i 0)) (fun i => xs.getD i 0) j xs.length) ∧ Below B w1 wr) (fun i _ => c - (intOf i).toNat)
  case atStart => exact ⟨0, rfl, Nat.zero_le _, HU.out, Below.refl _ _⟩
  case round =>
    obtain ⟨j, rfl, hj, hO, hB⟩ := hrel
    have HO := Lib.hid hO
    have HB := Lib.hid hB
    clear hO hB
    by_cases hlt : j < c
    · have e1 : decide ((j : Int) < (c : Int)) = true := by simp; omega
      have hjx : j < xs.length := by omega
      obtain ⟨g, rfl⟩ := Ha.out (by omega)
      obtain ⟨b', o', rfl, hbl', hcell'⟩ := Hgc.out (by omega)
      have c1 := hcell' wr (HB.out.mono hlim) j hlt
      have et : (ys.take c).getD j 0 = ys.getD j 0 := by simp [List.getD_eq_getElem?_getD, hlt]
      rw [et] at c1
      have c2 := HO.out.cellAt (upt_length _ _ _ _) hjx
      have f2 := HO.out.free (upt_length _ _ _ _) j
      have ev : (upt (fun i => bx (xs.getD i 0) (ys.getD i 0)) (fun i => xs.getD i 0) j xs.length).getD j 0 = xs.getD j 0 := by
        rw [List.getD_eq_getElem?_getD, upt_get _ _ _ _ _ hjx, if_neg (by omega)]; rfl
      rw [ev] at c2
      have e3 := u8_xor (HX.out.get j) (HY.out.get j)
      have HG := Lib.hid (bx_bound (HX.out.get j) (HY.out.get j))
      obtain ⟨m, hm⟩ : ∃ m, m = bx (xs.getD j 0) (ys.getD j 0) := ⟨_, rfl⟩
      rw [← hm] at e3
      have HM := Lib.hid hm
      obtain ⟨z, hz⟩ : ∃ z, z = xs.getD j 0 := ⟨_, rfl⟩
      obtain ⟨z', hz'⟩ : ∃ z, z = ys.getD j 0 := ⟨_, rfl⟩
      rw [← hz] at c2 e3
      rw [← hz'] at c1 e3
      clear hm hz hz' et ev hcell'
      go_wp2
      go_roundw
      case rel =>
        obtain ⟨p1, p2⟩ := HO.out.put (f := fun i => bx (xs.getD i 0) (ys.getD i 0)) (j := j) (wf_u8_of HG.out.1 HG.out.2)
        rw [HM.out]
        exact ⟨j + 1, by simp, hlt, p1, HB.out.trans (HO.out.below (Nat.le_refl _) p2)⟩
      case measure => simp [intOf]; omega
    · have e1 : decide ((j : Int) < (c : Int)) = false := by simp; omega
      have ej : j = c := by omega
      have HO2 : Hid (Own 5 .u8 B wr (.slice a xs.length cap) (upt (fun i => bx (xs.getD i 0) (ys.getD i 0)) (fun i => xs.getD i 0) c xs.length)) := Lib.hid (by have := HO.out; rw [ej] at this; exact this)
      have HV2 := Lib.hid (HV1.out.behind (HB.out.mono hlim))
      have HN2 : Hid (((upt (fun i => bx (xs.getD i 0) (ys.getD i 0)) (fun i => xs.getD i 0) c xs.length).length + (ys.drop c).length) * 1 ≤ 140737488355328) := Lib.hid (by have := HN.out; rw [upt_length, List.length_drop]; omega)
      clear ej HO
      go_wp2_with (first | (refine slice_rd_l _ rfl _ _ _ i0 Try.underlying22 Hhi.out hz1 rfl HV2.out _ rfl rfl hcy ?_))
      intro u3 hu3
      have HU3 := Lib.hid hu3
      clear hu3
      go_wp2_with (first | (at_builtin; refine append_rd _ rfl _ _ 22 rfl 5 i0 (.int .u8 0) 1 Try.underlying22 Hhi.out hz0 hz1 hz2 rfl (by omega) rfl HO2.out rfl HU3.out HN2.out ?_))
      intro v4 w4 h3 h4
      simp only [← List.getD_eq_getElem?_getD] at h3
      rw [HP.out] at h3
      have H3 := Lib.hid h3
      have H4 := Lib.hid (HB1.out.trans (HB.out.trans (HO2.out.below (Nat.le_refl _) h4)))
      clear h3 h4
      go_wp2
      go_ret
      exact ⟨_, rfl, H3.out, H4.out⟩

end Go.Proofs.Ytigeghmkkppldaa
