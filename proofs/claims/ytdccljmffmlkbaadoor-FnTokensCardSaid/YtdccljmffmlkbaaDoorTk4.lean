/- Blind tokens: the program's steps taken one after the other, its requests and its finished tokens. No conditions but numbers that a machine holds. -/
import Derived.Test.YtdccljmffmlkbaaDoorTk3
namespace Go.Proofs.YtdccljmffmlkbaaDoor
open Go Go.RowKit
set_option linter.unusedVariables false
set_option maxRecDepth 20000
attribute [local irreducible] kh kid pwm tcm pw chl

/-- The steps as values. -/
def fB : Value := .func (.func 91) #[] #[]
def fC : Value := .func (.func 92) #[] #[]
def fU : Value := .func (.func 93) #[] #[]
def fs3 : Array Value := #[fB, fC, fU]
theorem fs_0 : fs3[0]? = some (.func (.func 91) #[] #[]) := rfl
theorem fs_1 : fs3[1]? = some (.func (.func 92) #[] #[]) := rfl
theorem fs_2 : fs3[2]? = some (.func (.func 93) #[] #[]) := rfl

/-- impl.issuingSteps. -/
theorem steps_any {w : World} :
    Calls Tryd.prog 66 #[] w fun e w' => e = .returned (.slice (some ⟨w.heap.size, 0, none⟩) 3 3) ∧ w'.heap[w.heap.size]? = some (.cells fs3 107) ∧ Below w.heap.size w w' := by
  have HK := Lib.hid (heap_alloc_new w (.cells fs3 107))
  have HB := Lib.hid ((Below.refl w.heap.size w).alloc (Nat.le_refl _) (.cells fs3 107))
  go_enter Tryd.func66, Tryd.ntmps66
  go_wp2_with fail
  go_ret
  exact ⟨rfl, HK.out, HB.out⟩

/-- What the steps have come to. -/
def Came (s b k e c r x : Int) (j : Nat) (z : Int) : Prop :=
  (j = 0 ∧ z = x) ∨ (j = 1 ∧ blok s b = true ∧ z = blE s b) ∨ (j = 2 ∧ (blok s b = true ∧ vrf 4 (blE s b) k e c r = true) ∧ z = blE s b) ∨ (j = 3 ∧ (blok s b = true ∧ vrf 4 (blE s b) k e c r = true) ∧ z = pwG e (invE b))

set_option maxHeartbeats 8000000 in
/-- take, one step. -/
theorem take1 {w : World} {B : Nat} {s b k e c r x : Int} (hsw : (Lit.int .i64 s).wf = true) (hbw : (Lit.int .i64 b).wf = true) (hkw : (Lit.int .i64 k).wf = true) (hew : (Lit.int .i64 e).wf = true) (hcw : (Lit.int .i64 c).wf = true) (hrw : (Lit.int .i64 r).wf = true) (hf : w.heap[B]? = some (.cells fs3 107)) :
    Calls Tryd.prog 65 #[.agg #[.int .i64 s, .int .i64 b, .int .i64 k, .int .i64 e, .int .i64 c, .int .i64 r, .int .i64 x], .slice (some ⟨B, 0, none⟩) 1 3] w fun e' w' => ∃ S A K E C R X : Int, e' = .returned (.tuple #[.agg #[.int .i64 S, .int .i64 A, .int .i64 K, .int .i64 E, .int .i64 C, .int .i64 R, .int .i64 X], .bool (blok s b)]) ∧ (X = blE s b) ∧ Below w.heap.size w w' := by
  have HS := Lib.hid hsw
  have HBw := Lib.hid hbw
  have HK := Lib.hid hkw
  have HE := Lib.hid hew
  have HCw := Lib.hid hcw
  have HR := Lib.hid hrw
  have HF := Lib.hid hf
  have HFl := Lib.hid (lt_of_block hf)
  have HYw := Lib.hid (blE_wf s b)
  obtain ⟨y, hy⟩ : ∃ y, y = blE s b := ⟨_, rfl⟩
  rw [← hy] at HYw
  have HY := Lib.hid hy
  obtain ⟨v, hv⟩ : ∃ v, v = vrf 4 y k e c r := ⟨_, rfl⟩
  have HV := Lib.hid hv
  obtain ⟨z, hz⟩ : ∃ z, z = pwG e (invE b) := ⟨_, rfl⟩
  have HZ := Lib.hid hz
  obtain ⟨a0, b0, hB⟩ := gtwo w (.cells #[.int .i64 s, .int .i64 b, .int .i64 k, .int .i64 e, .int .i64 c, .int .i64 r, .int .i64 x] 85) (.cells #[.int .i64 0, .int .i64 0, .int .i64 0, .int .i64 0, .int .i64 0, .int .i64 0, .int .i64 0] 85)
  have HA := Lib.hid a0
  have HC := Lib.hid b0
  have HB := Lib.hid hB
  clear hsw hbw hkw hew hcw hrw hf hy hv hz a0 b0 hB
  go_enter Tryd.func65, Tryd.ntmps65
  go_wp2_with fail
  go_loopw [12] (fun i wr => ∃ (j : Nat) (u : Int), i = .int .i64 j ∧ j ≤ 1 ∧ Came s b k e c r x j u ∧ wr.heap[w.heap.size]? = some (.cells #[.int .i64 s, .int .i64 b, .int .i64 k, .int .i64 e, .int .i64 c, .int .i64 r, .int .i64 u] 85) ∧ wr.heap[w.heap.size + 1]? = some (.cells #[.int .i64 0, .int .i64 0, .int .i64 0, .int .i64 0, .int .i64 0, .int .i64 0, .int .i64 0] 85) ∧ Below w.heap.size w wr) (fun i _ => 1 - (intOf i).toNat)
  case atStart => exact ⟨0, x, rfl, by omega, Or.inl ⟨rfl, rfl⟩, HA.out, HC.out, HB.out⟩
  case round =>
    clear HA HC HB
    obtain ⟨j, u, rfl, hj, hcame, hA, hC, hB⟩ := hrel
    have HA := Lib.hid hA
    have HC := Lib.hid hC
    have HB := Lib.hid hB
    have cA := (hB.block _ HFl.out).trans HF.out
    have HCF := Lib.hid cA
    clear hA hC hB cA
    rcases hcame with ⟨rfl, rfl⟩ | ⟨rfl, h1, rfl⟩ | ⟨rfl, ⟨h1, h2⟩, rfl⟩ | ⟨rfl, ⟨h1, h2⟩, rfl⟩
    · obtain ⟨c0, c1, c2, c3, c4, c5, c6⟩ := pc7 HA.out
      have cF := blk_cell HCF.out 0
      rw [fs_0] at cF
      cases h1 : blok s b with
      | false =>
        have H1 := Lib.hid h1
        clear h1
        go_wp2_with fail
        refine (blind_no HS.out HBw.out H1.out).mono ?_
        rintro e' w1 ⟨rfl, hb⟩
        replace HB := Lib.hid (HB.out.trans (hb.mono HB.out.size))
        replace HA := Lib.hid ((hb.block _ (lt_of_block HA.out)).trans HA.out)
        replace HC := Lib.hid ((hb.block _ (lt_of_block HC.out)).trans HC.out)
        clear hb c0 c1 c2 c3 c4 c5 c6 cF
        have HA1 := Lib.hid ((heap_alloc_old w1 (.cells #[.int .i64 0, .int .i64 0, .int .i64 0, .int .i64 0, .int .i64 0, .int .i64 0, .int .i64 0] 85) (lt_of_block HA.out)).trans HA.out)
        have HC1 := Lib.hid ((heap_alloc_old w1 (.cells #[.int .i64 0, .int .i64 0, .int .i64 0, .int .i64 0, .int .i64 0, .int .i64 0, .int .i64 0] 85) (lt_of_block HC.out)).trans HC.out)
        have HX1 := Lib.hid (heap_alloc_new w1 (.cells #[.int .i64 0, .int .i64 0, .int .i64 0, .int .i64 0, .int .i64 0, .int .i64 0, .int .i64 0] 85))
        have HB1 := Lib.hid (HB.out.alloc HB.out.size (.cells #[.int .i64 0, .int .i64 0, .int .i64 0, .int .i64 0, .int .i64 0, .int .i64 0, .int .i64 0] 85))
        obtain ⟨W1, hW1⟩ : ∃ W, W = w1.alloc (.cells #[.int .i64 0, .int .i64 0, .int .i64 0, .int .i64 0, .int .i64 0, .int .i64 0, .int .i64 0] 85) := ⟨_, rfl⟩
        rw [← hW1] at HA1 HC1 HX1 HB1
        have HW1 := Lib.hid hW1
        clear hW1
        obtain ⟨j0, j1, j2, j3, j4, j5, j6⟩ := pc7 HC1.out
        obtain ⟨f0, f1, f2, f3, f4, f5, f6⟩ := pf7 HC1.out
        obtain ⟨k9, g9⟩ := pst7 HC1.out (.int .i64 0) (.int .i64 0) (.int .i64 0) (.int .i64 0) (.int .i64 0) (.int .i64 0) (.int .i64 0)
        obtain ⟨r0, r1, r2, r3, r4, r5, r6⟩ := pc7 k9
        replace HB1 := Lib.hid (HB1.out.grown g9 HB1.out.size (fun k hk => by injection hk with hk; omega))
        clear k9 g9
        rw [HW1.out] at j0 j1 j2 j3 j4 j5 j6 f0 f1 f2 f3 f4 f5 f6 r0 r1 r2 r3 r4 r5 r6 HB1
        go_wp2_with fail
        exact bodyPost_ret (v := .tuple #[.agg #[.int .i64 0, .int .i64 0, .int .i64 0, .int .i64 0, .int .i64 0, .int .i64 0, .int .i64 0], .bool false]) (by simp [results, Tryd.results65, go_sem, r0, r1, r2, r3, r4, r5, r6]) rfl ⟨0, 0, 0, 0, 0, 0, 0, by rw [H1.out], by rw [blE_no H1.out], HB1.out⟩
      | true =>
        have H1 := Lib.hid h1
        have HX : Hid (pwG (hs s) b = y) := Lib.hid (by rw [HY.out, blE_yes h1])
        clear h1
        go_wp2_with fail
        refine (blind_yes HS.out HBw.out H1.out).mono ?_
        rw [HX.out]
        rintro e' w1 ⟨rfl, hb⟩
        replace HB := Lib.hid (HB.out.trans (hb.mono HB.out.size))
        replace HA := Lib.hid ((hb.block _ (lt_of_block HA.out)).trans HA.out)
        replace HC := Lib.hid ((hb.block _ (lt_of_block HC.out)).trans HC.out)
        clear hb c0 c1 c2 c3 c4 c5 c6 cF
        have HA1 := Lib.hid ((heap_alloc_old w1 (.cells #[.int .i64 s, .int .i64 b, .int .i64 k, .int .i64 e, .int .i64 c, .int .i64 r, .int .i64 y] 85) (lt_of_block HA.out)).trans HA.out)
        have HC1 := Lib.hid ((heap_alloc_old w1 (.cells #[.int .i64 s, .int .i64 b, .int .i64 k, .int .i64 e, .int .i64 c, .int .i64 r, .int .i64 y] 85) (lt_of_block HC.out)).trans HC.out)
        have HX1 := Lib.hid (heap_alloc_new w1 (.cells #[.int .i64 s, .int .i64 b, .int .i64 k, .int .i64 e, .int .i64 c, .int .i64 r, .int .i64 y] 85))
        have HB1 := Lib.hid (HB.out.alloc HB.out.size (.cells #[.int .i64 s, .int .i64 b, .int .i64 k, .int .i64 e, .int .i64 c, .int .i64 r, .int .i64 y] 85))
        obtain ⟨W1, hW1⟩ : ∃ W, W = w1.alloc (.cells #[.int .i64 s, .int .i64 b, .int .i64 k, .int .i64 e, .int .i64 c, .int .i64 r, .int .i64 y] 85) := ⟨_, rfl⟩
        rw [← hW1] at HA1 HC1 HX1 HB1
        have HW1 := Lib.hid hW1
        clear hW1
        obtain ⟨i0, i1, i2, i3, i4, i5, i6⟩ := pc7 HX1.out
        obtain ⟨j0, j1, j2, j3, j4, j5, j6⟩ := pc7 HA1.out
        obtain ⟨f0, f1, f2, f3, f4, f5, f6⟩ := pf7 HA1.out
        obtain ⟨k9, g9⟩ := pst7 HA1.out (.int .i64 s) (.int .i64 b) (.int .i64 k) (.int .i64 e) (.int .i64 c) (.int .i64 r) (.int .i64 y)
        have HK9 := Lib.hid k9
        have HC9 := Lib.hid ((g9.block _ (lt_of_block HC1.out) (fun h => by injection h with h; omega)).trans HC1.out)
        replace HB1 := Lib.hid (HB1.out.grown g9 HB1.out.size (fun k hk => by injection hk with hk; omega))
        clear k9 g9
        rw [HW1.out] at i0 i1 i2 i3 i4 i5 i6 j0 j1 j2 j3 j4 j5 j6 f0 f1 f2 f3 f4 f5 f6 HK9 HC9 HB1
        go_wp2_with fail
        go_roundw
        case rel => exact ⟨1, _, rfl, by omega, Or.inr (Or.inl ⟨rfl, H1.out, HY.out⟩), HK9.out, HC9.out, HB1.out⟩
        case measure => simp [intOf]
    · have H1 := Lib.hid h1
      clear h1
      rw [← HY.out] at HA
      obtain ⟨c0, c1, c2, c3, c4, c5, c6⟩ := pc7 HA.out
      obtain ⟨j0, j1, j2, j3, j4, j5, j6⟩ := pc7 HC.out
      obtain ⟨f0, f1, f2, f3, f4, f5, f6⟩ := pf7 HC.out
      obtain ⟨k9, g9⟩ := pst7 HC.out (.int .i64 s) (.int .i64 b) (.int .i64 k) (.int .i64 e) (.int .i64 c) (.int .i64 r) (.int .i64 y)
      obtain ⟨r0, r1, r2, r3, r4, r5, r6⟩ := pc7 k9
      have HB1 := Lib.hid (HB.out.grown g9 HB.out.size (fun k hk => by injection hk with hk; omega))
      clear k9 g9
      go_wp2_with fail
      exact bodyPost_ret (v := .tuple #[.agg #[.int .i64 s, .int .i64 b, .int .i64 k, .int .i64 e, .int .i64 c, .int .i64 r, .int .i64 y], .bool true]) (by simp [results, Tryd.results65, go_sem, r0, r1, r2, r3, r4, r5, r6]) rfl ⟨_, _, _, _, _, _, _, by rw [H1.out], HY.out, HB1.out⟩
    · exact absurd hj (by omega)
    · exact absurd hj (by omega)

set_option maxHeartbeats 8000000 in
/-- take, all three. -/
theorem take3 {w : World} {B : Nat} {s b k e c r x : Int} (hsw : (Lit.int .i64 s).wf = true) (hbw : (Lit.int .i64 b).wf = true) (hkw : (Lit.int .i64 k).wf = true) (hew : (Lit.int .i64 e).wf = true) (hcw : (Lit.int .i64 c).wf = true) (hrw : (Lit.int .i64 r).wf = true) (hf : w.heap[B]? = some (.cells fs3 107)) :
    Calls Tryd.prog 65 #[.agg #[.int .i64 s, .int .i64 b, .int .i64 k, .int .i64 e, .int .i64 c, .int .i64 r, .int .i64 x], .slice (some ⟨B, 0, none⟩) 3 3] w fun e' w' => ∃ S A K E C R X : Int, e' = .returned (.tuple #[.agg #[.int .i64 S, .int .i64 A, .int .i64 K, .int .i64 E, .int .i64 C, .int .i64 R, .int .i64 X], .bool (fnok s b k e c r)]) ∧ (S = fnS s b k e c r ∧ X = fnV s b k e c r) ∧ Below w.heap.size w w' := by
  have HS := Lib.hid hsw
  have HBw := Lib.hid hbw
  have HK := Lib.hid hkw
  have HE := Lib.hid hew
  have HCw := Lib.hid hcw
  have HR := Lib.hid hrw
  have HF := Lib.hid hf
  have HFl := Lib.hid (lt_of_block hf)
  have HYw := Lib.hid (blE_wf s b)
  obtain ⟨y, hy⟩ : ∃ y, y = blE s b := ⟨_, rfl⟩
  rw [← hy] at HYw
  have HY := Lib.hid hy
  obtain ⟨v, hv⟩ : ∃ v, v = vrf 4 y k e c r := ⟨_, rfl⟩
  have HV := Lib.hid hv
  obtain ⟨z, hz⟩ : ∃ z, z = pwG e (invE b) := ⟨_, rfl⟩
  have HZ := Lib.hid hz
  obtain ⟨a0, b0, hB⟩ := gtwo w (.cells #[.int .i64 s, .int .i64 b, .int .i64 k, .int .i64 e, .int .i64 c, .int .i64 r, .int .i64 x] 85) (.cells #[.int .i64 0, .int .i64 0, .int .i64 0, .int .i64 0, .int .i64 0, .int .i64 0, .int .i64 0] 85)
  have HA := Lib.hid a0
  have HC := Lib.hid b0
  have HB := Lib.hid hB
  clear hsw hbw hkw hew hcw hrw hf hy hv hz a0 b0 hB
  go_enter Tryd.func65, Tryd.ntmps65
  go_wp2_with fail
  go_loopw [12] (fun i wr => ∃ (j : Nat) (u : Int), i = .int .i64 j ∧ j ≤ 3 ∧ Came s b k e c r x j u ∧ wr.heap[w.heap.size]? = some (.cells #[.int .i64 s, .int .i64 b, .int .i64 k, .int .i64 e, .int .i64 c, .int .i64 r, .int .i64 u] 85) ∧ wr.heap[w.heap.size + 1]? = some (.cells #[.int .i64 0, .int .i64 0, .int .i64 0, .int .i64 0, .int .i64 0, .int .i64 0, .int .i64 0] 85) ∧ Below w.heap.size w wr) (fun i _ => 3 - (intOf i).toNat)
  case atStart => exact ⟨0, x, rfl, by omega, Or.inl ⟨rfl, rfl⟩, HA.out, HC.out, HB.out⟩
  case round =>
    clear HA HC HB
    obtain ⟨j, u, rfl, hj, hcame, hA, hC, hB⟩ := hrel
    have HA := Lib.hid hA
    have HC := Lib.hid hC
    have HB := Lib.hid hB
    have cA := (hB.block _ HFl.out).trans HF.out
    have HCF := Lib.hid cA
    clear hA hC hB cA
    rcases hcame with ⟨rfl, rfl⟩ | ⟨rfl, h1, rfl⟩ | ⟨rfl, ⟨h1, h2⟩, rfl⟩ | ⟨rfl, ⟨h1, h2⟩, rfl⟩
    · obtain ⟨c0, c1, c2, c3, c4, c5, c6⟩ := pc7 HA.out
      have cF := blk_cell HCF.out 0
      rw [fs_0] at cF
      cases h1 : blok s b with
      | false =>
        have H1 := Lib.hid h1
        have HFn : Hid (fnok s b k e c r = false) := Lib.hid (by unfold fnok; rw [h1]; rfl)
        clear h1
        go_wp2_with fail
        refine (blind_no HS.out HBw.out H1.out).mono ?_
        rintro e' w1 ⟨rfl, hb⟩
        replace HB := Lib.hid (HB.out.trans (hb.mono HB.out.size))
        replace HA := Lib.hid ((hb.block _ (lt_of_block HA.out)).trans HA.out)
        replace HC := Lib.hid ((hb.block _ (lt_of_block HC.out)).trans HC.out)
        clear hb c0 c1 c2 c3 c4 c5 c6 cF
        have HA1 := Lib.hid ((heap_alloc_old w1 (.cells #[.int .i64 0, .int .i64 0, .int .i64 0, .int .i64 0, .int .i64 0, .int .i64 0, .int .i64 0] 85) (lt_of_block HA.out)).trans HA.out)
        have HC1 := Lib.hid ((heap_alloc_old w1 (.cells #[.int .i64 0, .int .i64 0, .int .i64 0, .int .i64 0, .int .i64 0, .int .i64 0, .int .i64 0] 85) (lt_of_block HC.out)).trans HC.out)
        have HX1 := Lib.hid (heap_alloc_new w1 (.cells #[.int .i64 0, .int .i64 0, .int .i64 0, .int .i64 0, .int .i64 0, .int .i64 0, .int .i64 0] 85))
        have HB1 := Lib.hid (HB.out.alloc HB.out.size (.cells #[.int .i64 0, .int .i64 0, .int .i64 0, .int .i64 0, .int .i64 0, .int .i64 0, .int .i64 0] 85))
        obtain ⟨W1, hW1⟩ : ∃ W, W = w1.alloc (.cells #[.int .i64 0, .int .i64 0, .int .i64 0, .int .i64 0, .int .i64 0, .int .i64 0, .int .i64 0] 85) := ⟨_, rfl⟩
        rw [← hW1] at HA1 HC1 HX1 HB1
        have HW1 := Lib.hid hW1
        clear hW1
        obtain ⟨j0, j1, j2, j3, j4, j5, j6⟩ := pc7 HC1.out
        obtain ⟨f0, f1, f2, f3, f4, f5, f6⟩ := pf7 HC1.out
        obtain ⟨k9, g9⟩ := pst7 HC1.out (.int .i64 0) (.int .i64 0) (.int .i64 0) (.int .i64 0) (.int .i64 0) (.int .i64 0) (.int .i64 0)
        obtain ⟨r0, r1, r2, r3, r4, r5, r6⟩ := pc7 k9
        replace HB1 := Lib.hid (HB1.out.grown g9 HB1.out.size (fun k hk => by injection hk with hk; omega))
        clear k9 g9
        rw [HW1.out] at j0 j1 j2 j3 j4 j5 j6 f0 f1 f2 f3 f4 f5 f6 r0 r1 r2 r3 r4 r5 r6 HB1
        go_wp2_with fail
        exact bodyPost_ret (v := .tuple #[.agg #[.int .i64 0, .int .i64 0, .int .i64 0, .int .i64 0, .int .i64 0, .int .i64 0, .int .i64 0], .bool false]) (by simp [results, Tryd.results65, go_sem, r0, r1, r2, r3, r4, r5, r6]) rfl ⟨0, 0, 0, 0, 0, 0, 0, by rw [HFn.out], by rw [(fn_no HFn.out).1, (fn_no HFn.out).2]; exact ⟨rfl, rfl⟩, HB1.out⟩
      | true =>
        have H1 := Lib.hid h1
        have HX : Hid (pwG (hs s) b = y) := Lib.hid (by rw [HY.out, blE_yes h1])
        clear h1
        go_wp2_with fail
        refine (blind_yes HS.out HBw.out H1.out).mono ?_
        rw [HX.out]
        rintro e' w1 ⟨rfl, hb⟩
        replace HB := Lib.hid (HB.out.trans (hb.mono HB.out.size))
        replace HA := Lib.hid ((hb.block _ (lt_of_block HA.out)).trans HA.out)
        replace HC := Lib.hid ((hb.block _ (lt_of_block HC.out)).trans HC.out)
        clear hb c0 c1 c2 c3 c4 c5 c6 cF
        have HA1 := Lib.hid ((heap_alloc_old w1 (.cells #[.int .i64 s, .int .i64 b, .int .i64 k, .int .i64 e, .int .i64 c, .int .i64 r, .int .i64 y] 85) (lt_of_block HA.out)).trans HA.out)
        have HC1 := Lib.hid ((heap_alloc_old w1 (.cells #[.int .i64 s, .int .i64 b, .int .i64 k, .int .i64 e, .int .i64 c, .int .i64 r, .int .i64 y] 85) (lt_of_block HC.out)).trans HC.out)
        have HX1 := Lib.hid (heap_alloc_new w1 (.cells #[.int .i64 s, .int .i64 b, .int .i64 k, .int .i64 e, .int .i64 c, .int .i64 r, .int .i64 y] 85))
        have HB1 := Lib.hid (HB.out.alloc HB.out.size (.cells #[.int .i64 s, .int .i64 b, .int .i64 k, .int .i64 e, .int .i64 c, .int .i64 r, .int .i64 y] 85))
        obtain ⟨W1, hW1⟩ : ∃ W, W = w1.alloc (.cells #[.int .i64 s, .int .i64 b, .int .i64 k, .int .i64 e, .int .i64 c, .int .i64 r, .int .i64 y] 85) := ⟨_, rfl⟩
        rw [← hW1] at HA1 HC1 HX1 HB1
        have HW1 := Lib.hid hW1
        clear hW1
        obtain ⟨i0, i1, i2, i3, i4, i5, i6⟩ := pc7 HX1.out
        obtain ⟨j0, j1, j2, j3, j4, j5, j6⟩ := pc7 HA1.out
        obtain ⟨f0, f1, f2, f3, f4, f5, f6⟩ := pf7 HA1.out
        obtain ⟨k9, g9⟩ := pst7 HA1.out (.int .i64 s) (.int .i64 b) (.int .i64 k) (.int .i64 e) (.int .i64 c) (.int .i64 r) (.int .i64 y)
        have HK9 := Lib.hid k9
        have HC9 := Lib.hid ((g9.block _ (lt_of_block HC1.out) (fun h => by injection h with h; omega)).trans HC1.out)
        replace HB1 := Lib.hid (HB1.out.grown g9 HB1.out.size (fun k hk => by injection hk with hk; omega))
        clear k9 g9
        rw [HW1.out] at i0 i1 i2 i3 i4 i5 i6 j0 j1 j2 j3 j4 j5 j6 f0 f1 f2 f3 f4 f5 f6 HK9 HC9 HB1
        go_wp2_with fail
        go_roundw
        case rel => exact ⟨1, _, rfl, by omega, Or.inr (Or.inl ⟨rfl, H1.out, HY.out⟩), HK9.out, HC9.out, HB1.out⟩
        case measure => simp [intOf]
    · have H1 := Lib.hid h1
      clear h1
      rw [← HY.out] at HA
      obtain ⟨c0, c1, c2, c3, c4, c5, c6⟩ := pc7 HA.out
      have cF := blk_cell HCF.out 1
      rw [fs_1] at cF
      cases h2 : v with
      | false =>
        have H2 : Hid (vrf 4 y k e c r = false) := Lib.hid (by rw [← HV.out, h2])
        have HFn : Hid (fnok s b k e c r = false) := Lib.hid (by unfold fnok; rw [H1.out, ← HY.out, H2.out]; rfl)
        clear h2
        go_wp2_with fail
        refine (check_any HYw.out HK.out HE.out HCw.out HR.out).mono ?_
        rw [H2.out]
        rintro e' w1 ⟨rfl, hb⟩
        replace HB := Lib.hid (HB.out.trans (hb.mono HB.out.size))
        replace HA := Lib.hid ((hb.block _ (lt_of_block HA.out)).trans HA.out)
        replace HC := Lib.hid ((hb.block _ (lt_of_block HC.out)).trans HC.out)
        clear hb c0 c1 c2 c3 c4 c5 c6 cF
        have HA1 := Lib.hid ((heap_alloc_old w1 (.cells #[.int .i64 s, .int .i64 b, .int .i64 k, .int .i64 e, .int .i64 c, .int .i64 r, .int .i64 y] 85) (lt_of_block HA.out)).trans HA.out)
        have HC1 := Lib.hid ((heap_alloc_old w1 (.cells #[.int .i64 s, .int .i64 b, .int .i64 k, .int .i64 e, .int .i64 c, .int .i64 r, .int .i64 y] 85) (lt_of_block HC.out)).trans HC.out)
        have HX1 := Lib.hid (heap_alloc_new w1 (.cells #[.int .i64 s, .int .i64 b, .int .i64 k, .int .i64 e, .int .i64 c, .int .i64 r, .int .i64 y] 85))
        have HB1 := Lib.hid (HB.out.alloc HB.out.size (.cells #[.int .i64 s, .int .i64 b, .int .i64 k, .int .i64 e, .int .i64 c, .int .i64 r, .int .i64 y] 85))
        obtain ⟨W1, hW1⟩ : ∃ W, W = w1.alloc (.cells #[.int .i64 s, .int .i64 b, .int .i64 k, .int .i64 e, .int .i64 c, .int .i64 r, .int .i64 y] 85) := ⟨_, rfl⟩
        rw [← hW1] at HA1 HC1 HX1 HB1
        have HW1 := Lib.hid hW1
        clear hW1
        obtain ⟨j0, j1, j2, j3, j4, j5, j6⟩ := pc7 HC1.out
        obtain ⟨f0, f1, f2, f3, f4, f5, f6⟩ := pf7 HC1.out
        obtain ⟨k9, g9⟩ := pst7 HC1.out (.int .i64 0) (.int .i64 0) (.int .i64 0) (.int .i64 0) (.int .i64 0) (.int .i64 0) (.int .i64 0)
        obtain ⟨r0, r1, r2, r3, r4, r5, r6⟩ := pc7 k9
        replace HB1 := Lib.hid (HB1.out.grown g9 HB1.out.size (fun k hk => by injection hk with hk; omega))
        clear k9 g9
        rw [HW1.out] at j0 j1 j2 j3 j4 j5 j6 f0 f1 f2 f3 f4 f5 f6 r0 r1 r2 r3 r4 r5 r6 HB1
        go_wp2_with fail
        exact bodyPost_ret (v := .tuple #[.agg #[.int .i64 0, .int .i64 0, .int .i64 0, .int .i64 0, .int .i64 0, .int .i64 0, .int .i64 0], .bool false]) (by simp [results, Tryd.results65, go_sem, r0, r1, r2, r3, r4, r5, r6]) rfl ⟨0, 0, 0, 0, 0, 0, 0, by rw [HFn.out], by rw [(fn_no HFn.out).1, (fn_no HFn.out).2]; exact ⟨rfl, rfl⟩, HB1.out⟩
      | true =>
        have H2 : Hid (vrf 4 y k e c r = true) := Lib.hid (by rw [← HV.out, h2])
        clear h2
        go_wp2_with fail
        refine (check_any HYw.out HK.out HE.out HCw.out HR.out).mono ?_
        rw [H2.out]
        rintro e' w1 ⟨rfl, hb⟩
        replace HB := Lib.hid (HB.out.trans (hb.mono HB.out.size))
        replace HA := Lib.hid ((hb.block _ (lt_of_block HA.out)).trans HA.out)
        replace HC := Lib.hid ((hb.block _ (lt_of_block HC.out)).trans HC.out)
        clear hb c0 c1 c2 c3 c4 c5 c6 cF
        have HA1 := Lib.hid ((heap_alloc_old w1 (.cells #[.int .i64 s, .int .i64 b, .int .i64 k, .int .i64 e, .int .i64 c, .int .i64 r, .int .i64 y] 85) (lt_of_block HA.out)).trans HA.out)
        have HC1 := Lib.hid ((heap_alloc_old w1 (.cells #[.int .i64 s, .int .i64 b, .int .i64 k, .int .i64 e, .int .i64 c, .int .i64 r, .int .i64 y] 85) (lt_of_block HC.out)).trans HC.out)
        have HX1 := Lib.hid (heap_alloc_new w1 (.cells #[.int .i64 s, .int .i64 b, .int .i64 k, .int .i64 e, .int .i64 c, .int .i64 r, .int .i64 y] 85))
        have HB1 := Lib.hid (HB.out.alloc HB.out.size (.cells #[.int .i64 s, .int .i64 b, .int .i64 k, .int .i64 e, .int .i64 c, .int .i64 r, .int .i64 y] 85))
        obtain ⟨W1, hW1⟩ : ∃ W, W = w1.alloc (.cells #[.int .i64 s, .int .i64 b, .int .i64 k, .int .i64 e, .int .i64 c, .int .i64 r, .int .i64 y] 85) := ⟨_, rfl⟩
        rw [← hW1] at HA1 HC1 HX1 HB1
        have HW1 := Lib.hid hW1
        clear hW1
        obtain ⟨i0, i1, i2, i3, i4, i5, i6⟩ := pc7 HX1.out
        obtain ⟨j0, j1, j2, j3, j4, j5, j6⟩ := pc7 HA1.out
        obtain ⟨f0, f1, f2, f3, f4, f5, f6⟩ := pf7 HA1.out
        obtain ⟨k9, g9⟩ := pst7 HA1.out (.int .i64 s) (.int .i64 b) (.int .i64 k) (.int .i64 e) (.int .i64 c) (.int .i64 r) (.int .i64 y)
        have HK9 := Lib.hid k9
        have HC9 := Lib.hid ((g9.block _ (lt_of_block HC1.out) (fun h => by injection h with h; omega)).trans HC1.out)
        replace HB1 := Lib.hid (HB1.out.grown g9 HB1.out.size (fun k hk => by injection hk with hk; omega))
        clear k9 g9
        rw [HW1.out] at i0 i1 i2 i3 i4 i5 i6 j0 j1 j2 j3 j4 j5 j6 f0 f1 f2 f3 f4 f5 f6 HK9 HC9 HB1
        go_wp2_with fail
        go_roundw
        case rel => exact ⟨2, _, rfl, by omega, Or.inr (Or.inr (Or.inl ⟨rfl, ⟨H1.out, by rw [← HY.out]; exact H2.out⟩, HY.out⟩)), HK9.out, HC9.out, HB1.out⟩
        case measure => simp [intOf]
    · have H1 := Lib.hid h1
      have H2 := Lib.hid h2
      clear h1 h2
      rw [← HY.out] at HA
      obtain ⟨c0, c1, c2, c3, c4, c5, c6⟩ := pc7 HA.out
      have cF := blk_cell HCF.out 2
      rw [fs_2] at cF
      go_wp2_with fail
      refine (unblind_any HBw.out HE.out).mono ?_
      rw [← HZ.out]
      rintro e' w1 ⟨rfl, hb⟩
      replace HB := Lib.hid (HB.out.trans (hb.mono HB.out.size))
      replace HA := Lib.hid ((hb.block _ (lt_of_block HA.out)).trans HA.out)
      replace HC := Lib.hid ((hb.block _ (lt_of_block HC.out)).trans HC.out)
      clear hb c0 c1 c2 c3 c4 c5 c6 cF
      have HA1 := Lib.hid ((heap_alloc_old w1 (.cells #[.int .i64 s, .int .i64 b, .int .i64 k, .int .i64 e, .int .i64 c, .int .i64 r, .int .i64 z] 85) (lt_of_block HA.out)).trans HA.out)
      have HC1 := Lib.hid ((heap_alloc_old w1 (.cells #[.int .i64 s, .int .i64 b, .int .i64 k, .int .i64 e, .int .i64 c, .int .i64 r, .int .i64 z] 85) (lt_of_block HC.out)).trans HC.out)
      have HX1 := Lib.hid (heap_alloc_new w1 (.cells #[.int .i64 s, .int .i64 b, .int .i64 k, .int .i64 e, .int .i64 c, .int .i64 r, .int .i64 z] 85))
      have HB1 := Lib.hid (HB.out.alloc HB.out.size (.cells #[.int .i64 s, .int .i64 b, .int .i64 k, .int .i64 e, .int .i64 c, .int .i64 r, .int .i64 z] 85))
      obtain ⟨W1, hW1⟩ : ∃ W, W = w1.alloc (.cells #[.int .i64 s, .int .i64 b, .int .i64 k, .int .i64 e, .int .i64 c, .int .i64 r, .int .i64 z] 85) := ⟨_, rfl⟩
      rw [← hW1] at HA1 HC1 HX1 HB1
      have HW1 := Lib.hid hW1
      clear hW1
      obtain ⟨i0, i1, i2, i3, i4, i5, i6⟩ := pc7 HX1.out
      obtain ⟨j0, j1, j2, j3, j4, j5, j6⟩ := pc7 HA1.out
      obtain ⟨f0, f1, f2, f3, f4, f5, f6⟩ := pf7 HA1.out
      obtain ⟨k9, g9⟩ := pst7 HA1.out (.int .i64 s) (.int .i64 b) (.int .i64 k) (.int .i64 e) (.int .i64 c) (.int .i64 r) (.int .i64 z)
      have HK9 := Lib.hid k9
      have HC9 := Lib.hid ((g9.block _ (lt_of_block HC1.out) (fun h => by injection h with h; omega)).trans HC1.out)
      replace HB1 := Lib.hid (HB1.out.grown g9 HB1.out.size (fun k hk => by injection hk with hk; omega))
      clear k9 g9
      rw [HW1.out] at i0 i1 i2 i3 i4 i5 i6 j0 j1 j2 j3 j4 j5 j6 f0 f1 f2 f3 f4 f5 f6 HK9 HC9 HB1
      go_wp2_with fail
      go_roundw
      case rel => exact ⟨3, _, rfl, by omega, Or.inr (Or.inr (Or.inr ⟨rfl, ⟨H1.out, H2.out⟩, HZ.out⟩)), HK9.out, HC9.out, HB1.out⟩
      case measure => simp [intOf]
    · have HFn : Hid (fnok s b k e c r = true) := Lib.hid (by unfold fnok; rw [h1, h2]; rfl)
      clear h1 h2
      rw [← HZ.out] at HA
      obtain ⟨c0, c1, c2, c3, c4, c5, c6⟩ := pc7 HA.out
      obtain ⟨j0, j1, j2, j3, j4, j5, j6⟩ := pc7 HC.out
      obtain ⟨f0, f1, f2, f3, f4, f5, f6⟩ := pf7 HC.out
      obtain ⟨k9, g9⟩ := pst7 HC.out (.int .i64 s) (.int .i64 b) (.int .i64 k) (.int .i64 e) (.int .i64 c) (.int .i64 r) (.int .i64 z)
      obtain ⟨r0, r1, r2, r3, r4, r5, r6⟩ := pc7 k9
      have HB1 := Lib.hid (HB.out.grown g9 HB.out.size (fun k hk => by injection hk with hk; omega))
      clear k9 g9
      go_wp2_with fail
      exact bodyPost_ret (v := .tuple #[.agg #[.int .i64 s, .int .i64 b, .int .i64 k, .int .i64 e, .int .i64 c, .int .i64 r, .int .i64 z], .bool true]) (by simp [results, Tryd.results65, go_sem, r0, r1, r2, r3, r4, r5, r6]) rfl ⟨_, _, _, _, _, _, _, by rw [HFn.out], by rw [(fn_yes HFn.out).1, (fn_yes HFn.out).2]; exact ⟨rfl, by rw [← HZ.out]⟩, HB1.out⟩

set_option maxHeartbeats 4000000 in
/-- impl.BlindToken. -/
theorem impl_bl {w : World} {n b : Int} (hn : (Lit.int .i64 n).wf = true) (hb : (Lit.int .i64 b).wf = true) :
    Calls Tryd.prog 28 #[.int .i64 n, .int .i64 b] w fun e w' => e = .returned (.tuple #[.agg #[.int .i64 (blE n b)], .bool (blok n b)]) ∧ Below w.heap.size w w' := by
  have HN := Lib.hid hn
  have HBw := Lib.hid hb
  have HB0 := Lib.hid ((Below.refl w.heap.size w).alloc (Nat.le_refl _) (.cells #[.int .i64 0] 43))
  have HK0 := Lib.hid (heap_alloc_new w (.cells #[.int .i64 0] 43))
  obtain ⟨q, hq⟩ : ∃ q, q = blok n b := ⟨_, rfl⟩
  obtain ⟨y, hy⟩ : ∃ y, y = blE n b := ⟨_, rfl⟩
  rw [← hq, ← hy]
  have HQ := Lib.hid hq
  have HY := Lib.hid hy
  obtain ⟨W, hW⟩ : ∃ W, W = w.alloc (.cells #[.int .i64 0] 43) := ⟨_, rfl⟩
  rw [← hW] at HB0 HK0
  have HW := Lib.hid hW
  clear hn hb hq hy hW
  go_enter Tryd.func28, Tryd.ntmps28
  go_wp2_with fail
  rw [← HW.out]
  refine (steps_any).mono ?_
  rintro e w1 ⟨rfl, hf, hb⟩
  have HF := Lib.hid hf
  replace HB0 := Lib.hid (HB0.out.trans (hb.mono HB0.out.size))
  replace HK0 := Lib.hid ((hb.block _ (lt_of_block HK0.out)).trans HK0.out)
  clear hf hb
  go_wp2_with fail
  refine (take1 (x := 0) HN.out HBw.out (by decide) (by decide) (by decide) (by decide) HF.out).mono ?_
  rintro e w2 ⟨S, A, K, X3, C, R, X, he, hx, hb⟩
  rw [← HQ.out] at he
  rw [← HY.out] at hx
  subst he
  subst hx
  replace HB0 := Lib.hid (HB0.out.trans (hb.mono HB0.out.size))
  replace HK0 := Lib.hid ((hb.block _ (lt_of_block HK0.out)).trans HK0.out)
  have k1 := (heap_alloc_old w2 (.cells #[.int .i64 S, .int .i64 A, .int .i64 K, .int .i64 X3, .int .i64 C, .int .i64 R, .int .i64 X] 85) (lt_of_block HK0.out)).trans HK0.out
  have k2 := heap_alloc_new w2 (.cells #[.int .i64 S, .int .i64 A, .int .i64 K, .int .i64 X3, .int .i64 C, .int .i64 R, .int .i64 X] 85)
  have b2 := HB0.out.alloc HB0.out.size (.cells #[.int .i64 S, .int .i64 A, .int .i64 K, .int .i64 X3, .int .i64 C, .int .i64 R, .int .i64 X] 85)
  obtain ⟨_, _, _, _, _, _, c6⟩ := pc7 k2
  have f0 := blk_free k1 0
  have c0 := gc0 k1
  obtain ⟨k3, r0⟩ := gst k1 (.int .i64 X)
  have HB2 := Lib.hid (b2.grown (grown_set _ w.heap.size 0 (.int .i64 X)) b2.size (fun k hk => by injection hk with hk; omega))
  clear k1 k2 b2 k3 hb
  go_wp2_with fail
  exact bodyPost_ret (v := .tuple #[.agg #[.int .i64 X], .bool q]) (by simp [results, Tryd.results28, go_sem, r0]) rfl ⟨rfl, HB2.out⟩

end Go.Proofs.YtdccljmffmlkbaaDoor
