/- Checks of writes: sums of sketches, the sketch of a vector and of shares; the program's. No conditions but numbers that a machine holds. -/
import Derived.Test.YtckhmjdhdoomdaaSk1
import Derived.Test.YtckhmjdhdoomdaaSel1
import Derived.BigQuiet
import Derived.Laws.EntriesVeiled
namespace Go.Proofs.Ytckhmjdhdoomdaa
open Go Go.RowKit
set_option linter.unusedVariables false
attribute [local irreducible] kh kid chl

theorem thr0 (x y z : Value) : (#[x, y, z] : Array Value)[0]? = some x := rfl
theorem thr1 (x y z : Value) : (#[x, y, z] : Array Value)[1]? = some y := rfl
theorem thr2 (x y z : Value) : (#[x, y, z] : Array Value)[2]? = some z := rfl
/-- A sum of so many numbers modulo 1019. -/
def gs (f : Nat → Int) : Nat → Int
  | 0 => 0
  | j + 1 => (gs f j + f j) % 1019
theorem gs_succ (f : Nat → Int) (j : Nat) : gs f (j + 1) = (gs f j + f j) % 1019 := rfl
theorem gs_bound (f : Nat → Int) (j : Nat) : 0 ≤ gs f j ∧ gs f j ≤ 1018 := by cases j with | zero => exact ⟨Int.le_refl _, (by decide : (0 : Int) ≤ 1018)⟩ | succ j => exact m1019 _
theorem gs_sA (s : Int) (zs : List Int) (j : Nat) : gs (fun i => chal s i * zs.getD i 0) j = sA s zs j := by
  induction j with
  | zero => rfl
  | succ j ih => rw [gs_succ, ih, sA_succ]
theorem gs_sB (s : Int) (zs : List Int) (j : Nat) : gs (fun i => chal s i * chal s i * zs.getD i 0) j = sB s zs j := by
  induction j with
  | zero => rfl
  | succ j ih => rw [gs_succ, ih, sB_succ]
theorem gs_sM (zs : List Int) (j : Nat) : gs (fun i => zs.getD i 0) j = sM zs j := by
  induction j with
  | zero => rfl
  | succ j ih => rw [gs_succ, ih, sM_succ]
theorem gs_j (f : List Int → Int) (zss : List (List Int)) (j : Nat) : gs (fun i => f (zss.getD i [])) j = jS f zss j := by
  induction j with
  | zero => rfl
  | succ j ih => rw [gs_succ, ih]; rfl

set_option maxHeartbeats 2000000 in
/-- impl.sumSketches. -/
theorem sumI_any {lim b : Nat} {w : World} {v : Value} {zs : List Int} {fA fB fM : Nat → Int} (h : Rd lim .i64 w v zs) (hlim : lim ≤ w.heap.size) (hb0 : ∀ i, i < zs.length → (0 ≤ fA i ∧ fA i ≤ 2000000000) ∧ (0 ≤ fB i ∧ fB i ≤ 2000000000) ∧ 0 ≤ fM i ∧ fM i ≤ 2000000000) (hF : ∀ (i : Nat) (w1 : World), i < zs.length → Below w.heap.size w w1 → Calls Try.prog 61 #[.int .i64 i, .int .i64 (zs.getD i 0), .pointer (some ⟨b, 0, none⟩)] w1 fun e w2 => e = .returned (.agg #[.int .i64 (fA i), .int .i64 (fB i), .int .i64 (fM i)]) ∧ Below w1.heap.size w1 w2) :
    Calls Try.prog 60 #[v, .func (.func 61) #[] #[.pointer (some ⟨b, 0, none⟩)]] w fun e w' => e = .returned (.agg #[.int .i64 (gs fA zs.length), .int .i64 (gs fB zs.length), .int .i64 (gs fM zs.length)]) ∧ Below w.heap.size w w' := by
  have H := Lib.hid h
  obtain ⟨a, cap, rfl, h1, h2, hc⟩ := h.open
  have Hc := Lib.hid hc
  unfold maxLen at h2
  have HF := Lib.hid hF
  have HB0 := Lib.hid hb0
  have HS : Hid (w.heap.size + 1 = w.heap.size + 1) := Lib.hid rfl
  have HL := Lib.hid hlim
  clear h hc hF hb0 hlim
  go_enter Try.func60, Try.ntmps60
  go_wp2_with fail
  go_loopw [11] (fun i wr => ∃ j : Nat, i = .int .i64 j ∧ j ≤ zs.length ∧ wr.heap[w.heap.size]? = some (.cells #[.int .i64 (0), .int .i64 (0), .int .i64 (0)] 53) ∧ wr.heap[w.heap.size + 1]? = some (.cells #[.int .i64 (gs fA j), .int .i64 (gs fB j), .int .i64 (gs fM j)] 53) ∧ Below w.heap.size w wr) (fun i _ => zs.length - (intOf i).toNat)
  case atStart =>
    refine ⟨0, rfl, Nat.zero_le _, ?_, ?_, ?_⟩
    · exact (heap_alloc_old _ _ (by simp)).trans (heap_alloc_new w _)
    · have := heap_alloc_new (w.alloc (.cells #[.int .i64 (0), .int .i64 (0), .int .i64 (0)] 53)) (.cells #[.int .i64 (0), .int .i64 (0), .int .i64 (0)] 53)
      rwa [World.size_alloc] at this
    · exact ((Below.refl _ _).alloc (Nat.le_refl _) _).alloc (by simp) _
  case round =>
    obtain ⟨j, rfl, hj, hR, hT, hB⟩ := hrel
    have HR := Lib.hid hR
    have HT := Lib.hid hT
    have HB := Lib.hid hB
    have HSlt := Lib.hid (lt_of_block hT)
    clear hR hT hB
    by_cases hlt : j < zs.length
    · have e1 : decide ((j : Int) < (zs.length : Int)) = true := by simp; omega
      have hbn := HB0.out j hlt
      have g1 := gs_bound fA j
      have g2 := gs_bound fB j
      have g3 := gs_bound fM j
      have G1 : Hid ((gs fA j + fA j) % 1019 = gs fA (j + 1)) := Lib.hid rfl
      have G2 : Hid ((gs fB j + fB j) % 1019 = gs fB (j + 1)) := Lib.hid rfl
      have G3 : Hid ((gs fM j + fM j) % 1019 = gs fM (j + 1)) := Lib.hid rfl
      obtain ⟨bb, o, rfl, hbb, hcell⟩ := Hc.out (by omega)
      have c1 := hcell wr (HB.out.mono HL.out) j hlt
      have HC := Lib.hid (HF.out j wr hlt HB.out)
      obtain ⟨z, hz⟩ : ∃ z, z = zs.getD j 0 := ⟨_, rfl⟩
      rw [← hz] at c1 HC
      clear hcell hz
      obtain ⟨x, hx⟩ : ∃ x, x = fA j := ⟨_, rfl⟩
      obtain ⟨y, hy⟩ : ∃ y, y = fB j := ⟨_, rfl⟩
      obtain ⟨m, hm⟩ : ∃ m, m = fM j := ⟨_, rfl⟩
      obtain ⟨A, hA⟩ : ∃ A, A = gs fA j := ⟨_, rfl⟩
      obtain ⟨B, hB⟩ : ∃ B, B = gs fB j := ⟨_, rfl⟩
      obtain ⟨M, hM⟩ : ∃ M, M = gs fM j := ⟨_, rfl⟩
      obtain ⟨A', hA'⟩ : ∃ A, A = gs fA (j + 1) := ⟨_, rfl⟩
      obtain ⟨B', hB'⟩ : ∃ B, B = gs fB (j + 1) := ⟨_, rfl⟩
      obtain ⟨M', hM'⟩ : ∃ M, M = gs fM (j + 1) := ⟨_, rfl⟩
      rw [← hx, ← hy, ← hm] at hbn HC
      rw [← hx, ← hA, ← hA'] at G1
      rw [← hy, ← hB, ← hB'] at G2
      rw [← hm, ← hM, ← hM'] at G3
      rw [← hA] at g1
      rw [← hB] at g2
      rw [← hM] at g3
      rw [← hA, ← hB, ← hM] at HT
      have HA' := Lib.hid hA'
      have HB' := Lib.hid hB'
      have HM' := Lib.hid hM'
      obtain ⟨⟨b1, b2⟩, ⟨b3, b4⟩, b5, b6⟩ := hbn
      obtain ⟨g1, g1'⟩ := g1
      obtain ⟨g2, g2'⟩ := g2
      obtain ⟨g3, g3'⟩ := g3
      clear hx hy hm hA hB hM hA' hB' hM'
      have W1 : Hid ((Lit.int .i64 (A + x)).wf = true) := Lib.hid (wf_i64_of (by omega) (by omega))
      have W2 : Hid ((Lit.int .i64 (B + y)).wf = true) := Lib.hid (wf_i64_of (by omega) (by omega))
      have W3 : Hid ((Lit.int .i64 (M + m)).wf = true) := Lib.hid (wf_i64_of (by omega) (by omega))
      go_wp2_with fail
      refine HC.out.mono ?_
      rintro e w1 ⟨rfl, hb⟩
      have HB1 := Lib.hid (HB.out.trans (hb.mono HB.out.size))
      have HR1 : Hid (w1.heap[w.heap.size]? = some (.cells #[.int .i64 (0), .int .i64 (0), .int .i64 (0)] 53)) := Lib.hid ((hb.block w.heap.size (lt_of_block HR.out)).trans HR.out)
      have HT1 : Hid (w1.heap[w.heap.size + 1]? = some (.cells #[.int .i64 (A), .int .i64 (B), .int .i64 (M)] 53)) := Lib.hid ((hb.block (w.heap.size + 1) HSlt.out).trans HT.out)
      have HSl1 := Lib.hid (lt_of_block HT1.out)
      obtain ⟨P, hP⟩ : ∃ P, P = w1.heap.size := ⟨_, rfl⟩
      have hPS : Hid (w.heap.size + 1 < P ∧ w.heap.size < P) := Lib.hid (by have := HSl1.out; have := HS.out; omega)
      obtain ⟨W, hW⟩ : ∃ W, W = w1.alloc (.cells #[.int .i64 (x), .int .i64 (y), .int .i64 (m)] 53) := ⟨_, rfl⟩
      have HP : Hid (W.heap[P]? = some (.cells #[.int .i64 (x), .int .i64 (y), .int .i64 (m)] 53)) := Lib.hid (by rw [hW, hP]; exact heap_alloc_new _ _)
      have HT2 : Hid (W.heap[w.heap.size + 1]? = some (.cells #[.int .i64 (A), .int .i64 (B), .int .i64 (M)] 53)) := Lib.hid (by rw [hW]; exact (heap_alloc_old _ _ HSl1.out).trans HT1.out)
      have HR2 : Hid (W.heap[w.heap.size]? = some (.cells #[.int .i64 (0), .int .i64 (0), .int .i64 (0)] 53)) := Lib.hid (by rw [hW]; exact (heap_alloc_old _ _ (lt_of_block HR1.out)).trans HR1.out)
      have HB2 : Hid (Below w.heap.size w W) := Lib.hid (by rw [hW]; exact HB1.out.alloc HB1.out.size _)
      have hs0 := blk_cell HT2.out 0
      have hp0 := blk_cell HP.out 0
      rw [thr0] at hs0 hp0
      have HW := Lib.hid hW
      have HPe := Lib.hid hP
      rw [hW, hP] at hp0
      rw [hW] at hs0
      clear hb hW hP HC HR HT HB HSlt
      go_wp2_with fail
      rw [← HW.out]
      clear hs0 hp0
      refine (fe_any W1.out).mono ?_
      rw [G1.out]
      rintro e w2 ⟨rfl, hw2⟩
      obtain rfl : W = w2 := hw2.symm
      have f0 := blk_free HT2.out 0
      have k0 := blk_cell HT2.out 0
      rw [thr0] at k0
      obtain ⟨V3, hV⟩ : ∃ X, X = W.setCell ⟨w.heap.size + 1, 0, none⟩ (.int .i64 A') := ⟨_, rfl⟩
      have HT3 : Hid (V3.heap[w.heap.size + 1]? = some (.cells #[.int .i64 (A'), .int .i64 (B), .int .i64 (M)] 53)) := Lib.hid (by rw [hV]; exact blk_set HT2.out 0 (.int .i64 A'))
      have hg : W.grownBy V3 (some (w.heap.size + 1)) := by rw [hV]; exact grown_set _ _ _ _
      have HP3 : Hid (V3.heap[P]? = some (.cells #[.int .i64 (x), .int .i64 (y), .int .i64 (m)] 53)) := Lib.hid ((hg.block P (lt_of_block HP.out) (by have := hPS.out.1; simp; omega)).trans HP.out)
      have HR3 : Hid (V3.heap[w.heap.size]? = some (.cells #[.int .i64 (0), .int .i64 (0), .int .i64 (0)] 53)) := Lib.hid ((hg.block w.heap.size (lt_of_block HR2.out) (by simp)).trans HR2.out)
      have HB3 : Hid (Below w.heap.size w V3) := Lib.hid (HB2.out.grown hg HB2.out.size (fun k hk => by injection hk with hk; have := HS.out; omega))
      have hs := blk_cell HT3.out 1
      have hp := blk_cell HP3.out 1
      rw [thr1] at hs hp
      rw [hV] at hs hp
      rw [HPe.out] at hp
      have HV := Lib.hid hV
      clear hV hg
      go_wp2_with fail
      rw [← HV.out]
      clear hs hp f0 k0 HV
      refine (fe_any W2.out).mono ?_
      rw [G2.out]
      rintro e w2 ⟨rfl, hw2⟩
      obtain rfl : V3 = w2 := hw2.symm
      have f1 := blk_free HT3.out 1
      have k1 := blk_cell HT3.out 1
      rw [thr1] at k1
      obtain ⟨V4, hV⟩ : ∃ X, X = V3.setCell ⟨w.heap.size + 1, 1, none⟩ (.int .i64 B') := ⟨_, rfl⟩
      have HT4 : Hid (V4.heap[w.heap.size + 1]? = some (.cells #[.int .i64 (A'), .int .i64 (B'), .int .i64 (M)] 53)) := Lib.hid (by rw [hV]; exact blk_set HT3.out 1 (.int .i64 B'))
      have hg : V3.grownBy V4 (some (w.heap.size + 1)) := by rw [hV]; exact grown_set _ _ _ _
      have HP4 : Hid (V4.heap[P]? = some (.cells #[.int .i64 (x), .int .i64 (y), .int .i64 (m)] 53)) := Lib.hid ((hg.block P (lt_of_block HP3.out) (by have := hPS.out.1; simp; omega)).trans HP3.out)
      have HR4 : Hid (V4.heap[w.heap.size]? = some (.cells #[.int .i64 (0), .int .i64 (0), .int .i64 (0)] 53)) := Lib.hid ((hg.block w.heap.size (lt_of_block HR3.out) (by simp)).trans HR3.out)
      have HB4 : Hid (Below w.heap.size w V4) := Lib.hid (HB3.out.grown hg HB3.out.size (fun k hk => by injection hk with hk; have := HS.out; omega))
      have hs := blk_cell HT4.out 2
      have hp := blk_cell HP4.out 2
      rw [thr2] at hs hp
      rw [hV] at hs hp
      rw [HPe.out] at hp
      have HV := Lib.hid hV
      clear hV hg
      go_wp2_with fail
      rw [← HV.out]
      clear hs hp f1 k1 HV
      refine (fe_any W3.out).mono ?_
      rw [G3.out]
      rintro e w2 ⟨rfl, hw2⟩
      obtain rfl : V4 = w2 := hw2.symm
      have f2 := blk_free HT4.out 2
      have k2 := blk_cell HT4.out 2
      rw [thr2] at k2
      obtain ⟨V5, hV⟩ : ∃ X, X = V4.setCell ⟨w.heap.size + 1, 2, none⟩ (.int .i64 M') := ⟨_, rfl⟩
      have HT5 : Hid (V5.heap[w.heap.size + 1]? = some (.cells #[.int .i64 (A'), .int .i64 (B'), .int .i64 (M')] 53)) := Lib.hid (by rw [hV]; exact blk_set HT4.out 2 (.int .i64 M'))
      have hg : V4.grownBy V5 (some (w.heap.size + 1)) := by rw [hV]; exact grown_set _ _ _ _
      have HP5 : Hid (V5.heap[P]? = some (.cells #[.int .i64 (x), .int .i64 (y), .int .i64 (m)] 53)) := Lib.hid ((hg.block P (lt_of_block HP4.out) (by have := hPS.out.1; simp; omega)).trans HP4.out)
      have HR5 : Hid (V5.heap[w.heap.size]? = some (.cells #[.int .i64 (0), .int .i64 (0), .int .i64 (0)] 53)) := Lib.hid ((hg.block w.heap.size (lt_of_block HR4.out) (by simp)).trans HR4.out)
      have HB5 : Hid (Below w.heap.size w V5) := Lib.hid (HB4.out.grown hg HB4.out.size (fun k hk => by injection hk with hk; have := HS.out; omega))
      have HV := Lib.hid hV
      clear hV hg
      go_wp2_with fail
      go_roundw
      case rel =>
        rw [← HV.out]
        refine ⟨j + 1, by simp, hlt, ?_, ?_, ?_⟩
        · exact HR5.out
        · rw [← HA'.out, ← HB'.out, ← HM'.out]; exact HT5.out
        · exact HB5.out
      case measure => simp [intOf]; omega
    · have e1 : decide ((j : Int) < (zs.length : Int)) = false := by simp; omega
      obtain rfl : j = zs.length := by omega
      have s0 := blk_cell HT.out 0
      have s1 := blk_cell HT.out 1
      have s2 := blk_cell HT.out 2
      have f0 := blk_free HR.out 0
      have f1 := blk_free HR.out 1
      have f2 := blk_free HR.out 2
      have r0 := blk_cell HR.out 0
      have r1 := blk_cell HR.out 1
      have r2 := blk_cell HR.out 2
      rw [thr0] at s0 r0
      rw [thr1] at s1 r1
      rw [thr2] at s2 r2
      obtain ⟨A, hA⟩ : ∃ A, A = gs fA zs.length := ⟨_, rfl⟩
      obtain ⟨B, hB⟩ : ∃ B, B = gs fB zs.length := ⟨_, rfl⟩
      obtain ⟨M, hM⟩ : ∃ M, M = gs fM zs.length := ⟨_, rfl⟩
      rw [← hA] at s0
      rw [← hB] at s1
      rw [← hM] at s2
      have HA := Lib.hid hA
      have HBm := Lib.hid hB
      have HM := Lib.hid hM
      clear hA hB hM
      go_wp2_with fail
      have q1 := blk_set (blk_set (blk_set HR.out 0 (.int .i64 A)) 1 (.int .i64 B)) 2 (.int .i64 M)
      have q2 := ((grown_set wr w.heap.size 0 (.int .i64 A)).trans (grown_set _ w.heap.size 1 (.int .i64 B))).trans (grown_set _ w.heap.size 2 (.int .i64 M))
      have Q2 := Lib.hid (HB.out.grown q2 HB.out.size (fun k hk => by injection hk with hk; omega))
      obtain ⟨W5, hW5⟩ : ∃ W5, W5 = ((wr.setCell ⟨w.heap.size, 0, none⟩ (.int .i64 A)).setCell ⟨w.heap.size, 1, none⟩ (.int .i64 B)).setCell ⟨w.heap.size, 2, none⟩ (.int .i64 M) := ⟨_, rfl⟩
      rw [← hW5] at q1 Q2 ⊢
      have t0 := blk_cell q1 0
      have t1 := blk_cell q1 1
      have t2 := blk_cell q1 2
      simp only [Array.setIfInBounds] at t0 t1 t2
      simp at t0 t1 t2
      clear hW5 s0 s1 s2 f0 f1 f2 r0 r1 r2 q1
      exact bodyPost_ret (v := .agg #[.int .i64 A, .int .i64 B, .int .i64 M]) (by simp [results, Try.results60, go_sem, t0, t1, t2]) rfl ⟨by rw [HA.out, HBm.out, HM.out], Q2.out⟩

set_option maxHeartbeats 2000000 in
/-- impl.sumSketches. -/
theorem sumS_any {lim b : Nat} {w : World} {v : Value} {zss : List (List Int)} {fA fB fM : Nat → Int} (h : Rd2 lim .i64 w v zss) (hlim : lim ≤ w.heap.size) (hb0 : ∀ i, i < zss.length → (0 ≤ fA i ∧ fA i ≤ 2000000000) ∧ (0 ≤ fB i ∧ fB i ≤ 2000000000) ∧ 0 ≤ fM i ∧ fM i ≤ 2000000000) (hF : ∀ (i : Nat) (u : Value) (w1 : World), i < zss.length → Below w.heap.size w w1 → Rd lim .i64 w1 u (zss.getD i []) → Calls Try.prog 44 #[.int .i64 i, u, .pointer (some ⟨b, 0, none⟩)] w1 fun e w2 => e = .returned (.agg #[.int .i64 (fA i), .int .i64 (fB i), .int .i64 (fM i)]) ∧ Below w1.heap.size w1 w2) :
    Calls Try.prog 43 #[v, .func (.func 44) #[] #[.pointer (some ⟨b, 0, none⟩)]] w fun e w' => e = .returned (.agg #[.int .i64 (gs fA zss.length), .int .i64 (gs fB zss.length), .int .i64 (gs fM zss.length)]) ∧ Below w.heap.size w w' := by
  have H := Lib.hid h
  obtain ⟨a, cap, rfl, h1, h2, hc⟩ := h.open
  have Hc := Lib.hid hc
  unfold maxLen at h2
  have HF := Lib.hid hF
  have HB0 := Lib.hid hb0
  have HS : Hid (w.heap.size + 1 = w.heap.size + 1) := Lib.hid rfl
  have HL := Lib.hid hlim
  clear h hc hF hb0 hlim
  go_enter Try.func43, Try.ntmps43
  go_wp2_with fail
  go_loopw [11] (fun i wr => ∃ j : Nat, i = .int .i64 j ∧ j ≤ zss.length ∧ wr.heap[w.heap.size]? = some (.cells #[.int .i64 (0), .int .i64 (0), .int .i64 (0)] 53) ∧ wr.heap[w.heap.size + 1]? = some (.cells #[.int .i64 (gs fA j), .int .i64 (gs fB j), .int .i64 (gs fM j)] 53) ∧ Below w.heap.size w wr) (fun i _ => zss.length - (intOf i).toNat)
  case atStart =>
    refine ⟨0, rfl, Nat.zero_le _, ?_, ?_, ?_⟩
    · exact (heap_alloc_old _ _ (by simp)).trans (heap_alloc_new w _)
    · have := heap_alloc_new (w.alloc (.cells #[.int .i64 (0), .int .i64 (0), .int .i64 (0)] 53)) (.cells #[.int .i64 (0), .int .i64 (0), .int .i64 (0)] 53)
      rwa [World.size_alloc] at this
    · exact ((Below.refl _ _).alloc (Nat.le_refl _) _).alloc (by simp) _
  case round =>
    obtain ⟨j, rfl, hj, hR, hT, hB⟩ := hrel
    have HR := Lib.hid hR
    have HT := Lib.hid hT
    have HB := Lib.hid hB
    have HSlt := Lib.hid (lt_of_block hT)
    clear hR hT hB
    by_cases hlt : j < zss.length
    · have e1 : decide ((j : Int) < (zss.length : Int)) = true := by simp; omega
      have hbn := HB0.out j hlt
      have g1 := gs_bound fA j
      have g2 := gs_bound fB j
      have g3 := gs_bound fM j
      have G1 : Hid ((gs fA j + fA j) % 1019 = gs fA (j + 1)) := Lib.hid rfl
      have G2 : Hid ((gs fB j + fB j) % 1019 = gs fB (j + 1)) := Lib.hid rfl
      have G3 : Hid ((gs fM j + fM j) % 1019 = gs fM (j + 1)) := Lib.hid rfl
      obtain ⟨zs, hzs⟩ : ∃ zs, zss[j]? = some zs := ⟨_, List.getElem?_eq_getElem hlt⟩
      obtain ⟨bb, o, rfl, hbb, hcell⟩ := Hc.out (by omega)
      obtain ⟨u, c1, hr⟩ := hcell wr (HB.out.mono HL.out) j zs hzs
      obtain ⟨a1, k1, rfl, _⟩ := hr.open
      have HC := Lib.hid (HF.out j _ wr hlt HB.out (by rw [getD_of hzs]; exact hr))
      clear hcell hr hzs
      obtain ⟨x, hx⟩ : ∃ x, x = fA j := ⟨_, rfl⟩
      obtain ⟨y, hy⟩ : ∃ y, y = fB j := ⟨_, rfl⟩
      obtain ⟨m, hm⟩ : ∃ m, m = fM j := ⟨_, rfl⟩
      obtain ⟨A, hA⟩ : ∃ A, A = gs fA j := ⟨_, rfl⟩
      obtain ⟨B, hB⟩ : ∃ B, B = gs fB j := ⟨_, rfl⟩
      obtain ⟨M, hM⟩ : ∃ M, M = gs fM j := ⟨_, rfl⟩
      obtain ⟨A', hA'⟩ : ∃ A, A = gs fA (j + 1) := ⟨_, rfl⟩
      obtain ⟨B', hB'⟩ : ∃ B, B = gs fB (j + 1) := ⟨_, rfl⟩
      obtain ⟨M', hM'⟩ : ∃ M, M = gs fM (j + 1) := ⟨_, rfl⟩
      rw [← hx, ← hy, ← hm] at hbn HC
      rw [← hx, ← hA, ← hA'] at G1
      rw [← hy, ← hB, ← hB'] at G2
      rw [← hm, ← hM, ← hM'] at G3
      rw [← hA] at g1
      rw [← hB] at g2
      rw [← hM] at g3
      rw [← hA, ← hB, ← hM] at HT
      have HA' := Lib.hid hA'
      have HB' := Lib.hid hB'
      have HM' := Lib.hid hM'
      obtain ⟨⟨b1, b2⟩, ⟨b3, b4⟩, b5, b6⟩ := hbn
      obtain ⟨g1, g1'⟩ := g1
      obtain ⟨g2, g2'⟩ := g2
      obtain ⟨g3, g3'⟩ := g3
      clear hx hy hm hA hB hM hA' hB' hM'
      have W1 : Hid ((Lit.int .i64 (A + x)).wf = true) := Lib.hid (wf_i64_of (by omega) (by omega))
      have W2 : Hid ((Lit.int .i64 (B + y)).wf = true) := Lib.hid (wf_i64_of (by omega) (by omega))
      have W3 : Hid ((Lit.int .i64 (M + m)).wf = true) := Lib.hid (wf_i64_of (by omega) (by omega))
      go_wp2_with fail
      refine HC.out.mono ?_
      rintro e w1 ⟨rfl, hb⟩
      have HB1 := Lib.hid (HB.out.trans (hb.mono HB.out.size))
      have HR1 : Hid (w1.heap[w.heap.size]? = some (.cells #[.int .i64 (0), .int .i64 (0), .int .i64 (0)] 53)) := Lib.hid ((hb.block w.heap.size (lt_of_block HR.out)).trans HR.out)
      have HT1 : Hid (w1.heap[w.heap.size + 1]? = some (.cells #[.int .i64 (A), .int .i64 (B), .int .i64 (M)] 53)) := Lib.hid ((hb.block (w.heap.size + 1) HSlt.out).trans HT.out)
      have HSl1 := Lib.hid (lt_of_block HT1.out)
      obtain ⟨P, hP⟩ : ∃ P, P = w1.heap.size := ⟨_, rfl⟩
      have hPS : Hid (w.heap.size + 1 < P ∧ w.heap.size < P) := Lib.hid (by have := HSl1.out; have := HS.out; omega)
      obtain ⟨W, hW⟩ : ∃ W, W = w1.alloc (.cells #[.int .i64 (x), .int .i64 (y), .int .i64 (m)] 53) := ⟨_, rfl⟩
      have HP : Hid (W.heap[P]? = some (.cells #[.int .i64 (x), .int .i64 (y), .int .i64 (m)] 53)) := Lib.hid (by rw [hW, hP]; exact heap_alloc_new _ _)
      have HT2 : Hid (W.heap[w.heap.size + 1]? = some (.cells #[.int .i64 (A), .int .i64 (B), .int .i64 (M)] 53)) := Lib.hid (by rw [hW]; exact (heap_alloc_old _ _ HSl1.out).trans HT1.out)
      have HR2 : Hid (W.heap[w.heap.size]? = some (.cells #[.int .i64 (0), .int .i64 (0), .int .i64 (0)] 53)) := Lib.hid (by rw [hW]; exact (heap_alloc_old _ _ (lt_of_block HR1.out)).trans HR1.out)
      have HB2 : Hid (Below w.heap.size w W) := Lib.hid (by rw [hW]; exact HB1.out.alloc HB1.out.size _)
      have hs0 := blk_cell HT2.out 0
      have hp0 := blk_cell HP.out 0
      rw [thr0] at hs0 hp0
      have HW := Lib.hid hW
      have HPe := Lib.hid hP
      rw [hW, hP] at hp0
      rw [hW] at hs0
      clear hb hW hP HC HR HT HB HSlt
      go_wp2_with fail
      rw [← HW.out]
      clear hs0 hp0
      refine (fe_any W1.out).mono ?_
      rw [G1.out]
      rintro e w2 ⟨rfl, hw2⟩
      obtain rfl : W = w2 := hw2.symm
      have f0 := blk_free HT2.out 0
      have k0 := blk_cell HT2.out 0
      rw [thr0] at k0
      obtain ⟨V3, hV⟩ : ∃ X, X = W.setCell ⟨w.heap.size + 1, 0, none⟩ (.int .i64 A') := ⟨_, rfl⟩
      have HT3 : Hid (V3.heap[w.heap.size + 1]? = some (.cells #[.int .i64 (A'), .int .i64 (B), .int .i64 (M)] 53)) := Lib.hid (by rw [hV]; exact blk_set HT2.out 0 (.int .i64 A'))
      have hg : W.grownBy V3 (some (w.heap.size + 1)) := by rw [hV]; exact grown_set _ _ _ _
      have HP3 : Hid (V3.heap[P]? = some (.cells #[.int .i64 (x), .int .i64 (y), .int .i64 (m)] 53)) := Lib.hid ((hg.block P (lt_of_block HP.out) (by have := hPS.out.1; simp; omega)).trans HP.out)
      have HR3 : Hid (V3.heap[w.heap.size]? = some (.cells #[.int .i64 (0), .int .i64 (0), .int .i64 (0)] 53)) := Lib.hid ((hg.block w.heap.size (lt_of_block HR2.out) (by simp)).trans HR2.out)
      have HB3 : Hid (Below w.heap.size w V3) := Lib.hid (HB2.out.grown hg HB2.out.size (fun k hk => by injection hk with hk; have := HS.out; omega))
      have hs := blk_cell HT3.out 1
      have hp := blk_cell HP3.out 1
      rw [thr1] at hs hp
      rw [hV] at hs hp
      rw [HPe.out] at hp
      have HV := Lib.hid hV
      clear hV hg
      go_wp2_with fail
      rw [← HV.out]
      clear hs hp f0 k0 HV
      refine (fe_any W2.out).mono ?_
      rw [G2.out]
      rintro e w2 ⟨rfl, hw2⟩
      obtain rfl : V3 = w2 := hw2.symm
      have f1 := blk_free HT3.out 1
      have k1 := blk_cell HT3.out 1
      rw [thr1] at k1
      obtain ⟨V4, hV⟩ : ∃ X, X = V3.setCell ⟨w.heap.size + 1, 1, none⟩ (.int .i64 B') := ⟨_, rfl⟩
      have HT4 : Hid (V4.heap[w.heap.size + 1]? = some (.cells #[.int .i64 (A'), .int .i64 (B'), .int .i64 (M)] 53)) := Lib.hid (by rw [hV]; exact blk_set HT3.out 1 (.int .i64 B'))
      have hg : V3.grownBy V4 (some (w.heap.size + 1)) := by rw [hV]; exact grown_set _ _ _ _
      have HP4 : Hid (V4.heap[P]? = some (.cells #[.int .i64 (x), .int .i64 (y), .int .i64 (m)] 53)) := Lib.hid ((hg.block P (lt_of_block HP3.out) (by have := hPS.out.1; simp; omega)).trans HP3.out)
      have HR4 : Hid (V4.heap[w.heap.size]? = some (.cells #[.int .i64 (0), .int .i64 (0), .int .i64 (0)] 53)) := Lib.hid ((hg.block w.heap.size (lt_of_block HR3.out) (by simp)).trans HR3.out)
      have HB4 : Hid (Below w.heap.size w V4) := Lib.hid (HB3.out.grown hg HB3.out.size (fun k hk => by injection hk with hk; have := HS.out; omega))
      have hs := blk_cell HT4.out 2
      have hp := blk_cell HP4.out 2
      rw [thr2] at hs hp
      rw [hV] at hs hp
      rw [HPe.out] at hp
      have HV := Lib.hid hV
      clear hV hg
      go_wp2_with fail
      rw [← HV.out]
      clear hs hp f1 k1 HV
      refine (fe_any W3.out).mono ?_
      rw [G3.out]
      rintro e w2 ⟨rfl, hw2⟩
      obtain rfl : V4 = w2 := hw2.symm
      have f2 := blk_free HT4.out 2
      have k2 := blk_cell HT4.out 2
      rw [thr2] at k2
      obtain ⟨V5, hV⟩ : ∃ X, X = V4.setCell ⟨w.heap.size + 1, 2, none⟩ (.int .i64 M') := ⟨_, rfl⟩
      have HT5 : Hid (V5.heap[w.heap.size + 1]? = some (.cells #[.int .i64 (A'), .int .i64 (B'), .int .i64 (M')] 53)) := Lib.hid (by rw [hV]; exact blk_set HT4.out 2 (.int .i64 M'))
      have hg : V4.grownBy V5 (some (w.heap.size + 1)) := by rw [hV]; exact grown_set _ _ _ _
      have HP5 : Hid (V5.heap[P]? = some (.cells #[.int .i64 (x), .int .i64 (y), .int .i64 (m)] 53)) := Lib.hid ((hg.block P (lt_of_block HP4.out) (by have := hPS.out.1; simp; omega)).trans HP4.out)
      have HR5 : Hid (V5.heap[w.heap.size]? = some (.cells #[.int .i64 (0), .int .i64 (0), .int .i64 (0)] 53)) := Lib.hid ((hg.block w.heap.size (lt_of_block HR4.out) (by simp)).trans HR4.out)
      have HB5 : Hid (Below w.heap.size w V5) := Lib.hid (HB4.out.grown hg HB4.out.size (fun k hk => by injection hk with hk; have := HS.out; omega))
      have HV := Lib.hid hV
      clear hV hg
      go_wp2_with fail
      go_roundw
      case rel =>
        rw [← HV.out]
        refine ⟨j + 1, by simp, hlt, ?_, ?_, ?_⟩
        · exact HR5.out
        · rw [← HA'.out, ← HB'.out, ← HM'.out]; exact HT5.out
        · exact HB5.out
      case measure => simp [intOf]; omega
    · have e1 : decide ((j : Int) < (zss.length : Int)) = false := by simp; omega
      obtain rfl : j = zss.length := by omega
      have s0 := blk_cell HT.out 0
      have s1 := blk_cell HT.out 1
      have s2 := blk_cell HT.out 2
      have f0 := blk_free HR.out 0
      have f1 := blk_free HR.out 1
      have f2 := blk_free HR.out 2
      have r0 := blk_cell HR.out 0
      have r1 := blk_cell HR.out 1
      have r2 := blk_cell HR.out 2
      rw [thr0] at s0 r0
      rw [thr1] at s1 r1
      rw [thr2] at s2 r2
      obtain ⟨A, hA⟩ : ∃ A, A = gs fA zss.length := ⟨_, rfl⟩
      obtain ⟨B, hB⟩ : ∃ B, B = gs fB zss.length := ⟨_, rfl⟩
      obtain ⟨M, hM⟩ : ∃ M, M = gs fM zss.length := ⟨_, rfl⟩
      rw [← hA] at s0
      rw [← hB] at s1
      rw [← hM] at s2
      have HA := Lib.hid hA
      have HBm := Lib.hid hB
      have HM := Lib.hid hM
      clear hA hB hM
      go_wp2_with fail
      have q1 := blk_set (blk_set (blk_set HR.out 0 (.int .i64 A)) 1 (.int .i64 B)) 2 (.int .i64 M)
      have q2 := ((grown_set wr w.heap.size 0 (.int .i64 A)).trans (grown_set _ w.heap.size 1 (.int .i64 B))).trans (grown_set _ w.heap.size 2 (.int .i64 M))
      have Q2 := Lib.hid (HB.out.grown q2 HB.out.size (fun k hk => by injection hk with hk; omega))
      obtain ⟨W5, hW5⟩ : ∃ W5, W5 = ((wr.setCell ⟨w.heap.size, 0, none⟩ (.int .i64 A)).setCell ⟨w.heap.size, 1, none⟩ (.int .i64 B)).setCell ⟨w.heap.size, 2, none⟩ (.int .i64 M) := ⟨_, rfl⟩
      rw [← hW5] at q1 Q2 ⊢
      have t0 := blk_cell q1 0
      have t1 := blk_cell q1 1
      have t2 := blk_cell q1 2
      simp only [Array.setIfInBounds] at t0 t1 t2
      simp at t0 t1 t2
      clear hW5 s0 s1 s2 f0 f1 f2 r0 r1 r2 q1
      exact bodyPost_ret (v := .agg #[.int .i64 A, .int .i64 B, .int .i64 M]) (by simp [results, Try.results43, go_sem, t0, t1, t2]) rfl ⟨by rw [HA.out, HBm.out, HM.out], Q2.out⟩

end Go.Proofs.Ytckhmjdhdoomdaa