/- Chapter 12's draw of shares. No conditions. -/
import Derived.Test.YtckhmjdhdoomdaaDraw12
import Derived.StillTailTactics
namespace Go.Proofs.Ytckhmjdhdoomdaa
open Go Go.RowKit
set_option linter.unusedVariables false
attribute [local irreducible] kh kid chl

theorem grown_dr12 (w : World) (r : Option Nat) : w.grownBy w.drew r := ⟨rfl, rfl, rfl, Nat.le_refl _, fun _ _ _ => rfl⟩
theorem shV_cell {v s : List Int} {k : Nat} {z0 : List Int} {i : Nat} (hk : (shV v s)[k]? = some z0) (hi : i < z0.length) : 0 ≤ z0.getD i 0 ∧ z0.getD i 0 ≤ 1018 := by
  by_cases h : v.length ≤ 64 ∧ 1 ≤ s.length ∧ s.length ≤ 3
  · have hlt := (List.getElem?_eq_some_iff.1 hk).1
    rw [shV_len h] at hlt
    have e := shV_at h hlt
    rw [List.getD_eq_getElem?_getD, hk] at e
    simp only [Option.getD_some] at e
    subst e
    exact (fvec_iff.1 (vrow_fvec h hlt)).2 i hi
  · rw [shV_no h] at hk; simp at hk

set_option maxHeartbeats 4000000 in
set_option maxRecDepth 20000 in
/-- spec.l12Shares. -/
theorem shares12_any (B : Nat) (a : Option Addr) (len cap : Nat) (zs : List Int) (w : World) (hB : B ≤ w.heap.size) (hrow : RowB B .u8 w a len cap zs) (hl : len ≤ maxLen) :
    Calls Try.prog 46 #[.slice a len cap] w fun e w' => ∃ v zss x, e = .returned (.tuple #[v, .int .i64 x]) ∧ Rd2 w'.heap.size .i64 w' v zss ∧ -1 ≤ x ∧ x ≤ 2147483647 ∧ Below w.heap.size w w' := by
  obtain ⟨i1, hi1, hy0, hy1, hy2⟩ := info_parts infoi64s
  have Hhi' := Lib.hid hi1
  have HRw := Lib.hid hrow
  clear hrow hi1
  obtain ⟨b, hb⟩ : ∃ b, b = w.heap.size := ⟨_, rfl⟩
  have Hb := Lib.hid hb
  clear hb
  go_enter Try.func46, Try.ntmps46
  go_wp2_with fail
  refine (new_any B a len cap zs _ hB HRw.out hl).mono ?_
  rintro e w1 ⟨rfl, hc, hg⟩
  have HC := Lib.hid hc
  have HG := Lib.hid (grown_none (r := some w.heap.size) hg)
  clear hc hg
  rw [← Hb.out] at HC ⊢
  have HG1 : Hid (w.grownBy w1 (some b)) := Lib.hid (by rw [Hb.out]; exact HG.out)
  clear HG
  go_wp2_with fail
  refine (vec12_any B b _ HC.out).mono ?_
  rintro e w2 ⟨v2, xs, rfl, hO2, hl2, hc2, hg2⟩
  have HO2 := Lib.hid hO2
  have HL2 := Lib.hid hl2
  have HC2 := Lib.hid hc2
  have HG2 := Lib.hid (grown_trans HG1.out hg2)
  have HLt := Lib.hid HC.out.lt
  clear hO2 hl2 hc2 hg2 HC HG1
  go_wp2_with fail
  refine (seeds7_any B b _ HC2.out).mono ?_
  rintro e w3 ⟨u3, ys, rfl, hO3, hl3, hc3, hg3⟩
  have HV3 := Lib.hid (HO2.out.cur HLt.out.2 hg3)
  have HU3 := Lib.hid hO3
  have HL3 := Lib.hid hl3
  have HC3 := Lib.hid hc3
  have HG3 := Lib.hid (grown_trans HG2.out hg3)
  clear hO3 hl3 hc3 hg3 HC2 HG2
  go_wp2_with fail
  refine (spec_shV HV3.out.rd HU3.out.rd (Nat.le_refl _) (Nat.le_refl _) (by have := HL3.out; omega)).mono ?_
  rintro e w4 ⟨v4, rfl, hO4, hb4⟩
  have hlt3 := HC3.out.lt
  have hg4 := grown_of_below hb4
  have HC4 := Lib.hid (HC3.out.kept hg4 (by simp) (fun r hr => by cases hr))
  have HG4 := Lib.hid (grown_trans HG3.out (grown_none (r := some b) hg4))
  obtain ⟨L, hL⟩ : ∃ L, L = w3.heap.size := ⟨_, rfl⟩
  rw [← hL] at hO4 hlt3
  have HLb := Lib.hid hlt3
  have HLE : Hid (L ≤ w4.heap.size) := Lib.hid (by rw [hL]; exact hb4.size)
  have HLw : Hid (w.heap.size ≤ L) := Lib.hid (by rw [hL]; exact HG3.out.size)
  obtain ⟨zss, hzss⟩ : ∃ z, z = shV xs ys := ⟨_, rfl⟩
  have HZb : Hid (∀ (k i : Nat) (z0 : List Int), zss[k]? = some z0 → i < z0.length → 0 ≤ z0.getD i 0 ∧ z0.getD i 0 ≤ 1018) := Lib.hid (fun k i z0 hk hi => shV_cell (by rw [← hzss]; exact hk) hi)
  have HZl : Hid (zss.length ≤ 260) := Lib.hid (by have := shV_tot xs ys; rw [← hzss] at this; unfold tot at this; omega)
  rw [← hzss] at hO4
  have HO4 := Lib.hid hO4
  clear hO4 hb4 hg4 hL hlt3 hzss HC3 HG3 HV3 HU3
  go_wp2_with fail
  refine (below_any B b 8 _ HC4.out (by omega) (by omega)).mono ?_
  rintro e w5 ⟨t, t0, t1, rfl, hc5, hg5⟩
  have HC5 := Lib.hid hc5
  have HO5 := Lib.hid (HO4.out.cur HLb.out.2 hg5)
  have HG5 := Lib.hid (grown_trans HG4.out hg5)
  have HE5 : Hid (w4.heap.size ≤ w5.heap.size) := Lib.hid hg5.size
  clear hc5 hg5 HC4 HO4 HG4
  by_cases h0 : t = 0
  · subst h0
    go_wp2_with fail
    refine (any12_any B b _ HC5.out).mono ?_
    rintro e w6 ⟨v6, rs, rfl, hO6, hl6, hc6, hg6⟩
    obtain ⟨a6, c6, hv6, _⟩ := hO6.open
    obtain ⟨n6, hn6⟩ : ∃ n, n = rs.length := ⟨_, rfl⟩
    rw [← hn6] at hv6
    subst hv6
    have HC6 := Lib.hid (hc6.alloc (.cells #[.slice a6 n6 c6] 25))
    have HO6 : Hid (Own2 25 3 .i64 (ival L w5.heap.size) (w6.alloc (.cells #[.slice a6 n6 c6] 25)) v4 zss) := Lib.hid (((HO5.out.cur HLb.out.2 hg6).mono (fun r hr => ⟨hr.1, Nat.lt_of_lt_of_le hr.2 HE5.out⟩)).alloc _)
    have HU6 := Lib.hid (hO6.alloc (.cells #[.slice a6 n6 c6] 25))
    have HG6 := Lib.hid (grown_trans HG5.out (grown_trans hg6 (World.grownBy_alloc w6 (.cells #[.slice a6 n6 c6] 25) (some b))))
    have HL5 : Hid (L ≤ w5.heap.size) := Lib.hid (Nat.le_trans HLE.out HE5.out)
    have HE6 : Hid (w5.heap.size ≤ (w6.alloc (.cells #[.slice a6 n6 c6] 25)).heap.size) := Lib.hid (by rw [World.size_alloc]; have := hg6.size; omega)
    have HC2 : Hid ((w6.alloc (.cells #[.slice a6 n6 c6] 25)).cell? ((⟨w6.heap.size, 0, none⟩ : Addr).add 0) = some (.slice a6 n6 c6)) := Lib.hid (blk_cell (heap_alloc_new w6 _) 0)
    have HLe : Hid ((zss.length + 1) * 24 ≤ 140737488355328) := Lib.hid (by have := HZl.out; omega)
    clear hO6 hl6 hc6 hg6 HC5 HO5 HG5 hn6
    go_wp2_with (first | (at_builtin; refine append_row _ rfl _ _ 26 rfl 25 3 i1 24 Try.underlying26 Hhi'.out hy0 hy1 hy2 (by omega) rfl HO6.out HL5.out HE6.out rfl HC2.out HU6.out HLe.out ?_))
    intro v7 w7 h7 h8
    have hr := fun r hr => (HO6.out.in_ r hr).1
    have HC7 := Lib.hid (HC6.out.kept h8 (fun e => by have := hr _ e; have := HLb.out; omega) (fun r e => by have := hr r e; have := HLb.out; have := HLt.out; omega))
    have HG7 := Lib.hid (grown_own HG6.out h8 (fun r e => by have := hr r e; have := HLw.out; omega))
    have HO7 := Lib.hid h7
    clear h7 h8 hr
    go_wp2_with fail
    refine (seed_any B b _ HC7.out).mono ?_
    rintro e w8 ⟨x, x0, x1, rfl, hc8, hg8⟩
    have HO8 := Lib.hid (HO7.out.cur HLb.out.2 hg8)
    have HG8 := Lib.hid (below_of_grown (B := w.heap.size) (grown_trans HG7.out hg8) (by rw [Hb.out]; exact Nat.le_refl _) (Nat.le_refl _))
    clear hc8 hg8
    go_wp2_with fail
    go_ret2
    exact ⟨_, _, x, rfl, HO8.out.rd2, x0, x1, HG8.out⟩
  · have e1 : (t == 0) = false := beq_eq_false_iff_ne.2 h0
    by_cases h1 : t = 1
    · subst h1
      obtain ⟨a5, cp5, hv5, _, _, hg5⟩ := HO5.out.open
      obtain ⟨L5, hL5⟩ : ∃ l, l = zss.length := ⟨_, rfl⟩
      have hLm : L5 ≤ 260 := by have := HZl.out; omega
      rw [← hL5] at hv5 hg5
      subst hv5
      have HL5 := Lib.hid hL5
      clear hL5
      by_cases hz : 0 < L5
      · have e3 : decide ((0 : Int) < (L5 : Int)) = true := decide_eq_true (by omega)
        have hzi : (0 : Int) < (L5 : Int) := by omega
        obtain ⟨g, rfl, hgF⟩ := hg5 hz
        obtain ⟨z0, hz0⟩ : ∃ z, zss[0]? = some z := ⟨_, List.getElem?_eq_getElem (by have := HL5.out; omega)⟩
        obtain ⟨u, cu, hu, hin, hup⟩ := HO5.out.upd hz0
        obtain ⟨au, cu', hue, hgu⟩ := hu.open
        obtain ⟨n0, hn0⟩ : ∃ n, n = z0.length := ⟨_, rfl⟩
        rw [← hn0] at hue hgu
        subst hue
        have HZ0 := Lib.hid (fun i hi => HZb.out 0 i z0 hz0 hi)
        have hn0m : n0 ≤ 9223372036854775807 := by have := hu.rd.len; unfold maxLen at this; omega
        have HN0 := Lib.hid hn0
        have HU := Lib.hid hu
        have HIn := Lib.hid hin
        have HUp := Lib.hid hup
        clear hz0 hn0 hu hin hup
        by_cases hzn : 0 < n0
        · have e4 : decide ((0 : Int) < (n0 : Int)) = true := decide_eq_true (by omega)
          have hzni : (0 : Int) < (n0 : Int) := by omega
          obtain ⟨gu, rfl⟩ := hgu hzn
          have c2 := HU.out.cellAt HN0.out.symm hzn
          have f2 := HU.out.free HN0.out.symm 0
          have hzb := HZ0.out 0 (by have := HN0.out; omega)
          obtain ⟨z, hz'⟩ : ∃ z, z = z0.getD 0 0 := ⟨_, rfl⟩
          rw [← hz'] at c2 hzb
          obtain ⟨q, hq⟩ : ∃ q, q = (z + 1) % 1019 := ⟨_, rfl⟩
          have hqb : 0 ≤ q ∧ q ≤ 1018 := by omega
          obtain ⟨p1, p2⟩ := own_setn HU.out.drew HN0.out.symm (x := q) (wf_i64_of (by omega) (by omega)) 0
          have p3 := HUp.out _ _ ((KeptF.of_grown (grown_dr12 w5 none) (fun r hr => by cases hr)).trans (KeptF.of_grown p2 (fun r hr => hr))) p1
          have P3 := Lib.hid p3
          have hguL : L ≤ gu := (HIn.out gu rfl).1
          have HC6 := Lib.hid ((HC5.out.kept (grown_dr12 w5 none) (by simp) (fun r hr => by cases hr)).kept p2 (fun e => by injection e with e; have := HLb.out; omega) (fun r e => by injection e with e; have := HLb.out; have := HLt.out; omega))
          have HG6 := Lib.hid (grown_own (grown_trans HG5.out (grown_dr12 w5 (some b))) p2 (fun r e => by injection e with e; have := HLw.out; omega))
          have HQ := Lib.hid hq
          have w1e : IntKind.i64.wrap (z + 1) = z + 1 := by rw [IntKind.wrap_i64]; omega
          have w2e : (z + 1).tmod 1019 = q := by rw [Int.tmod_eq_emod_of_nonneg (by omega)]; exact hq.symm
          clear p1 p2 p3 hgu hguL hz' hq hqb
          go_wp2_with fail
          go_still_tail 11, (by kernel_rfl)
          change wpList _ _ _ _ _ w5.drew
          have f3 : w5.drew.frozen? ⟨gu, 0, none⟩ = false := f2
          have c3 : w5.drew.cell? ⟨gu, 0, none⟩ = some (.int .i64 z) := c2
          clear c2 f2 cu
          go_wp2_with fail
          refine (seed_any B b _ HC6.out).mono ?_
          rintro e w8 ⟨x, x0, x1, rfl, hc8, hg8⟩
          have HO8 := Lib.hid (Own2.cur P3.out HLb.out.2 hg8)
          have HG8 := Lib.hid (below_of_grown (B := w.heap.size) (grown_trans HG6.out hg8) (by rw [Hb.out]; exact Nat.le_refl _) (Nat.le_refl _))
          clear hc8 hg8
          go_wp2_with fail
          go_ret2
          exact ⟨_, _, x, rfl, HO8.out.rd2, x0, x1, HG8.out⟩
        · have e4 : decide ((0 : Int) < (n0 : Int)) = false := decide_eq_false (by omega)
          obtain rfl : n0 = 0 := by omega
          clear hgu hzn
          go_wp2_with fail
          refine (seed_any B b _ HC5.out).mono ?_
          rintro e w8 ⟨x, x0, x1, rfl, hc8, hg8⟩
          have HO8 := Lib.hid (HO5.out.cur HLb.out.2 hg8)
          have HG8 := Lib.hid (below_of_grown (B := w.heap.size) (grown_trans HG5.out hg8) (by rw [Hb.out]; exact Nat.le_refl _) (Nat.le_refl _))
          clear hc8 hg8
          go_wp2_with fail
          go_ret2
          exact ⟨_, _, x, rfl, HO8.out.rd2, x0, x1, HG8.out⟩
      · have e3 : decide ((0 : Int) < (L5 : Int)) = false := decide_eq_false (by omega)
        obtain rfl : L5 = 0 := by omega
        clear hz hg5
        go_wp2_with fail
        refine (seed_any B b _ HC5.out).mono ?_
        rintro e w8 ⟨x, x0, x1, rfl, hc8, hg8⟩
        have HO8 := Lib.hid (HO5.out.cur HLb.out.2 hg8)
        have HG8 := Lib.hid (below_of_grown (B := w.heap.size) (grown_trans HG5.out hg8) (by rw [Hb.out]; exact Nat.le_refl _) (Nat.le_refl _))
        clear hc8 hg8
        go_wp2_with fail
        go_ret2
        exact ⟨_, _, x, rfl, HO8.out.rd2, x0, x1, HG8.out⟩
    · have e2 : (t == 1) = false := beq_eq_false_iff_ne.2 h1
      go_wp2_with fail
      refine (seed_any B b _ HC5.out).mono ?_
      rintro e w6 ⟨x, x0, x1, rfl, hc6, hg6⟩
      have HO6 := Lib.hid (HO5.out.cur HLb.out.2 hg6)
      have HG6 := Lib.hid (below_of_grown (B := w.heap.size) (grown_trans HG5.out hg6) (by rw [Hb.out]; exact Nat.le_refl _) (Nat.le_refl _))
      clear hc6 hg6
      go_wp2_with fail
      go_ret2
      exact ⟨_, _, x, rfl, HO6.out.rd2, x0, x1, HG6.out⟩

/-- spec.DrawCheckShares. -/
theorem draw_ck12 (B : Nat) (a : Option Addr) (len cap : Nat) (zs : List Int) (w : World) (hB : B ≤ w.heap.size) (hrow : RowB B .u8 w a len cap zs) (hl : len ≤ maxLen) :
    Calls Try.prog 18 #[.slice a len cap] w fun e w' => ∃ v zss x, e = .returned (.tuple #[v, .int .i64 x]) ∧ Rd2 w'.heap.size .i64 w' v zss ∧ -1 ≤ x ∧ x ≤ 2147483647 ∧ Below w.heap.size w w' := by
  have HR := Lib.hid hrow
  clear hrow
  go_enter Try.func18, Try.ntmps18
  go_wp2_with fail
  refine (shares12_any B a len cap zs w hB HR.out hl).mono ?_
  rintro e w1 ⟨v, zss, x, rfl, h1, x0, x1, hb⟩
  have H1 := Lib.hid h1
  have HB := Lib.hid hb
  clear h1 hb
  go_wp2_with fail
  go_ret2
  exact ⟨v, zss, x, rfl, H1.out, x0, x1, HB.out⟩

end Go.Proofs.Ytckhmjdhdoomdaa
