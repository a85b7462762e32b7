/- Checks of writes: the sketch of a vector and of shares; the program's. No conditions but numbers that a machine holds. -/
import Derived.Test.YtckhmjdhdoomdaaSk2
namespace Go.Proofs.Ytckhmjdhdoomdaa
open Go Go.RowKit
set_option linter.unusedVariables false
attribute [local irreducible] kh kid chl


theorem kz_bounds {s : Int} {zs : List Int} (hv : fvec zs = true) (i : Nat) (hi : i < zs.length) : (0 ≤ chal s i * zs.getD i 0 ∧ chal s i * zs.getD i 0 ≤ 2000000000) ∧ (0 ≤ chal s i * chal s i * zs.getD i 0 ∧ chal s i * chal s i * zs.getD i 0 ≤ 2000000000) ∧ 0 ≤ zs.getD i 0 ∧ zs.getD i 0 ≤ 2000000000 := by
  have h1 := (fvec_iff.1 hv).2 i hi
  have h2 := chal_bound s i
  revert h1 h2
  generalize chal s i = r
  generalize zs.getD i 0 = z
  intro h1 h2
  have a1 := sq_bounds (x := r) (y := z) (by omega) h1
  have a2 := sq_bounds (x := r) (y := r) (by omega) (by omega)
  have a3 : 0 ≤ r * r * z := Int.mul_nonneg a2.1 h1.1
  have a4 : r * r * z ≤ 1036324 * 1018 := Int.mul_le_mul a2.2 h1.2 h1.1 (by decide)
  omega
theorem kz_wf {s : Int} {zs : List Int} (hv : fvec zs = true) (i : Nat) (hi : i < zs.length) : (Lit.int .i64 (zs.getD i 0)).wf = true := by
  have h1 := (fvec_iff.1 hv).2 i hi
  exact wf_i64_of (by omega) (by omega)

set_option maxHeartbeats 1000000 in
/-- sketchVector's closure. -/
theorem sv1_any {w : World} {b : Nat} {s z : Int} {i : Nat} (hc : w.cell? ⟨b, 0, none⟩ = some (.int .i64 s)) (hs : (Lit.int .i64 s).wf = true) (hz : 0 ≤ z ∧ z ≤ 1018) (hi : i ≤ 1000) :
    Calls Try.prog 61 #[.int .i64 i, .int .i64 z, .pointer (some ⟨b, 0, none⟩)] w fun e w' => e = .returned (.agg #[.int .i64 (chal s i * z), .int .i64 (chal s i * chal s i * z), .int .i64 z]) ∧ Below w.heap.size w w' := by
  have hbl := block_lt_of_cell hc
  have HB := Lib.hid ((Below.refl w.heap.size w).alloc (Nat.le_refl _) (.cells #[.int .i64 (0), .int .i64 (0), .int .i64 (0)] 53))
  have HC : Hid ((w.alloc (.cells #[.int .i64 (0), .int .i64 (0), .int .i64 (0)] 53)).cell? ⟨b, 0, none⟩ = some (.int .i64 s)) := Lib.hid (((HB.out).cell (p := ⟨b, 0, none⟩) hbl).trans hc)
  have HR : Hid ((w.alloc (.cells #[.int .i64 (0), .int .i64 (0), .int .i64 (0)] 53)).heap[w.heap.size]? = some (.cells #[.int .i64 (0), .int .i64 (0), .int .i64 (0)] 53)) := Lib.hid (heap_alloc_new w _)
  have HI := Lib.hid (wf_i64_of (n := (i : Int)) (by omega) (by omega))
  have he : wrap64 (7000 + (i : Int)) = 7000 + (i : Int) := by unfold wrap64; omega
  have HE : Hid (chl s (wrap64 (7000 + (i : Int))) = chal s i) := Lib.hid (by rw [he]; rfl)
  have HSw := Lib.hid hs
  have hr := chal_bound s i
  obtain ⟨r, hr'⟩ : ∃ r, r = chal s i := ⟨_, rfl⟩
  rw [← hr'] at HE hr
  rw [← hr']
  have a1 := sq_bounds (x := r) (y := z) (by omega) hz
  have a2 := sq_bounds (x := r) (y := r) (by omega) (by omega)
  have a3 : 0 ≤ r * r * z := Int.mul_nonneg a2.1 hz.1
  have a4 : r * r * z ≤ 1036324 * 1018 := Int.mul_le_mul a2.2 hz.2 hz.1 (by decide)
  have e1 : wrap64 (r * z) = r * z := by unfold wrap64; omega
  have e2 : wrap64 (r * r) = r * r := by unfold wrap64; omega
  have e3 : wrap64 (r * r * z) = r * r * z := by unfold wrap64; omega
  have E1 := Lib.hid e1
  have E2 := Lib.hid e2
  have E3 := Lib.hid e3
  clear hc hs he hr' hbl a1 a2 a3 a4 e1 e2 e3 hi hz hr
  have hc := HC.out
  go_enter Try.func61, Try.ntmps61
  go_wp2_with fail
  clear hc
  refine (impl_ch HSw.out HI.out).mono ?_
  rw [HE.out]
  rintro e w1 ⟨rfl, hb⟩
  have HR1 := Lib.hid ((hb.block w.heap.size (by simp)).trans HR.out)
  have HB1 := Lib.hid (HB.out.trans (hb.mono HB.out.size))
  have f0 := blk_free HR1.out 0
  have f1 := blk_free HR1.out 1
  have f2 := blk_free HR1.out 2
  have r0 := blk_cell HR1.out 0
  have r1 := blk_cell HR1.out 1
  have r2 := blk_cell HR1.out 2
  rw [thr0] at r0
  rw [thr1] at r1
  rw [thr2] at r2
  clear hb
  have e1 := E1.out
  have e2 := E2.out
  have e3 := E3.out
  go_wp2_with fail
  have q1 := blk_set (blk_set (blk_set HR1.out 0 (.int .i64 (r * z))) 1 (.int .i64 (r * r * z))) 2 (.int .i64 (z))
  have q2 := ((grown_set w1 w.heap.size 0 (.int .i64 (r * z))).trans (grown_set _ w.heap.size 1 (.int .i64 (r * r * z)))).trans (grown_set _ w.heap.size 2 (.int .i64 (z)))
  have Q2 := Lib.hid (HB1.out.grown q2 HB1.out.size (fun k hk => by injection hk with hk; omega))
  obtain ⟨W5, hW5⟩ : ∃ W5, W5 = ((w1.setCell ⟨w.heap.size, 0, none⟩ (.int .i64 (r * z))).setCell ⟨w.heap.size, 1, none⟩ (.int .i64 (r * r * z))).setCell ⟨w.heap.size, 2, none⟩ (.int .i64 (z)) := ⟨_, rfl⟩
  rw [← hW5] at q1 Q2 ⊢
  have t0 := blk_cell q1 0
  have t1 := blk_cell q1 1
  have t2 := blk_cell q1 2
  simp only [Array.setIfInBounds] at t0 t1 t2
  simp at t0 t1 t2
  clear hW5 q1
  exact bodyPost_ret (v := .agg #[.int .i64 (r * z), .int .i64 (r * r * z), .int .i64 (z)]) (by simp [results, Try.results61, go_sem, t0, t1, t2]) rfl ⟨rfl, Q2.out⟩


theorem kz_sums {s : Int} {zs : List Int} (hv : fvec zs = true) : gs (fun i => chal s i * zs.getD i 0) zs.length = kA s zs ∧ gs (fun i => chal s i * chal s i * zs.getD i 0) zs.length = kB s zs ∧ gs (fun i => zs.getD i 0) zs.length = kM zs := by
  unfold kA kB kM
  rw [if_pos hv, if_pos hv, if_pos hv]
  exact ⟨gs_sA _ _ _, gs_sB _ _ _, gs_sM _ _⟩
theorem kz_no {s : Int} {zs : List Int} (hv : fvec zs = false) : kA s zs = 0 ∧ kB s zs = 0 ∧ kM zs = 0 := by
  unfold kA kB kM
  rw [hv]
  exact ⟨rfl, rfl, rfl⟩

set_option maxHeartbeats 1000000 in
/-- impl.sketchVector. -/
theorem sv_any {lim : Nat} {w : World} {v : Value} {zs : List Int} {s : Int} (h : Rd lim .i64 w v zs) (hlim : lim ≤ w.heap.size) (hs : (Lit.int .i64 s).wf = true) :
    Calls Try.prog 45 #[v, .int .i64 s] w fun e w' => e = .returned (.agg #[.int .i64 (kA s zs), .int .i64 (kB s zs), .int .i64 (kM zs)]) ∧ Below w.heap.size w w' := by
  have hmf : ∀ (fn : Fn) (first cap : Array Value) (w : World), (Instr.makeFunc fn first cap).run Try.prog w = .ok (.func fn first cap) w := fun _ _ _ _ => rfl
  obtain ⟨W, hW⟩ : ∃ W, W = (w.alloc (.cells #[.int .i64 s] 3)).alloc (.cells #[.int .i64 (0), .int .i64 (0), .int .i64 (0)] 53) := ⟨_, rfl⟩
  have HB : Hid (Below w.heap.size w W) := Lib.hid (by rw [hW]; exact ((Below.refl _ _).alloc (Nat.le_refl _) _).alloc (by simp) _)
  have HC : Hid (W.cell? ⟨w.heap.size, 0, none⟩ = some (.int .i64 s)) := Lib.hid (by rw [hW]; exact blk_cell ((heap_alloc_old _ _ (by simp)).trans (heap_alloc_new w _)) 0)
  have HR : Hid (W.heap[w.heap.size + 1]? = some (.cells #[.int .i64 (0), .int .i64 (0), .int .i64 (0)] 53)) := Lib.hid (by
    rw [hW]
    have := heap_alloc_new (w.alloc (.cells #[.int .i64 s] 3)) (.cells #[.int .i64 (0), .int .i64 (0), .int .i64 (0)] 53)
    rwa [World.size_alloc] at this)
  have HSz : Hid (W.heap.size = w.heap.size + 2) := Lib.hid (by rw [hW, World.size_alloc, World.size_alloc])
  have HV := Lib.hid (h.behind (HB.out.mono hlim))
  have HW := Lib.hid hW
  have HSw := Lib.hid hs
  have HL := Lib.hid hlim
  clear h hW hs hlim
  cases hv : fvec zs with
  | false =>
    have HF := Lib.hid hv
    obtain ⟨k1, k2, k3⟩ := kz_no (s := s) hv
    have K1 := Lib.hid k1
    have K2 := Lib.hid k2
    have K3 := Lib.hid k3
    clear hv k1 k2 k3
    go_enter Try.func45, Try.ntmps45
    go_wp2_with fail
    rw [← HW.out]
    refine (ifv_any HV.out).mono ?_
    rw [HF.out]
    rintro e w1 ⟨rfl, hw1⟩
    obtain rfl : W = w1 := hw1.symm
    have f0 := blk_free HR.out 0
    have f1 := blk_free HR.out 1
    have f2 := blk_free HR.out 2
    have r0 := blk_cell HR.out 0
    have r1 := blk_cell HR.out 1
    have r2 := blk_cell HR.out 2
    rw [thr0] at r0
    rw [thr1] at r1
    rw [thr2] at r2
    go_wp2_with fail
    have q1 := blk_set (blk_set (blk_set HR.out 0 (.int .i64 (0))) 1 (.int .i64 (0))) 2 (.int .i64 (0))
    have q2 := ((grown_set W (w.heap.size + 1) 0 (.int .i64 (0))).trans (grown_set _ (w.heap.size + 1) 1 (.int .i64 (0)))).trans (grown_set _ (w.heap.size + 1) 2 (.int .i64 (0)))
    have Q2 := Lib.hid (HB.out.grown q2 HB.out.size (fun k hk => by injection hk with hk; omega))
    obtain ⟨W5, hW5⟩ : ∃ W5, W5 = ((W.setCell ⟨w.heap.size + 1, 0, none⟩ (.int .i64 (0))).setCell ⟨w.heap.size + 1, 1, none⟩ (.int .i64 (0))).setCell ⟨w.heap.size + 1, 2, none⟩ (.int .i64 (0)) := ⟨_, rfl⟩
    rw [← hW5] at q1 Q2 ⊢
    have t0 := blk_cell q1 0
    have t1 := blk_cell q1 1
    have t2 := blk_cell q1 2
    simp only [Array.setIfInBounds] at t0 t1 t2
    simp at t0 t1 t2
    clear hW5 q1
    exact bodyPost_ret (v := .agg #[.int .i64 (0), .int .i64 (0), .int .i64 (0)]) (by simp [results, Try.results45, go_sem, t0, t1, t2]) rfl ⟨by rw [K1.out, K2.out, K3.out], Q2.out⟩
  | true =>
    have HF := Lib.hid hv
    obtain ⟨k1, k2, k3⟩ := kz_sums (s := s) hv
    have K1 := Lib.hid k1
    have K2 := Lib.hid k2
    have K3 := Lib.hid k3
    have HCL := Lib.hid (sumI_any (b := w.heap.size) (fA := fun i => chal s i * zs.getD i 0) (fB := fun i => chal s i * chal s i * zs.getD i 0) (fM := fun i => zs.getD i 0) HV.out (by have := HSz.out; have := HL.out; omega) (fun i hi => kz_bounds hv i hi)
      (fun i w1 hi hb => sv1_any ((hb.cell (p := ⟨w.heap.size, 0, none⟩) (by have := HSz.out; show w.heap.size < _; omega)).trans HC.out) HSw.out ((fvec_iff.1 hv).2 i hi) (by have := (fvec_iff.1 hv).1; omega)))
    clear hv k1 k2 k3
    go_enter Try.func45, Try.ntmps45
    go_wp2_with fail
    rw [← HW.out]
    refine (ifv_any HV.out).mono ?_
    rw [HF.out]
    rintro e w1 ⟨rfl, hw1⟩
    obtain rfl : W = w1 := hw1.symm
    go_wp2_with fail
    refine HCL.out.mono ?_
    rw [K1.out, K2.out, K3.out]
    obtain ⟨A, hA⟩ : ∃ A, A = kA s zs := ⟨_, rfl⟩
    obtain ⟨B, hB⟩ : ∃ B, B = kB s zs := ⟨_, rfl⟩
    obtain ⟨M, hM⟩ : ∃ M, M = kM zs := ⟨_, rfl⟩
    rw [← hA, ← hB, ← hM]
    have EA := Lib.hid hA
    have EB := Lib.hid hB
    have EM := Lib.hid hM
    rintro e w2 ⟨rfl, hb⟩
    have HR2 : Hid (w2.heap[w.heap.size + 1]? = some (.cells #[.int .i64 (0), .int .i64 (0), .int .i64 (0)] 53)) := Lib.hid ((hb.block (w.heap.size + 1) (by have := HSz.out; omega)).trans HR.out)
    have HB2 := Lib.hid (HB.out.trans (hb.mono HB.out.size))
    clear hb hA hB hM
    have f0 := blk_free HR2.out 0
    have f1 := blk_free HR2.out 1
    have f2 := blk_free HR2.out 2
    have r0 := blk_cell HR2.out 0
    have r1 := blk_cell HR2.out 1
    have r2 := blk_cell HR2.out 2
    rw [thr0] at r0
    rw [thr1] at r1
    rw [thr2] at r2
    go_wp2_with fail
    have q1 := blk_set (blk_set (blk_set HR2.out 0 (.int .i64 (A))) 1 (.int .i64 (B))) 2 (.int .i64 (M))
    have q2 := ((grown_set w2 (w.heap.size + 1) 0 (.int .i64 (A))).trans (grown_set _ (w.heap.size + 1) 1 (.int .i64 (B)))).trans (grown_set _ (w.heap.size + 1) 2 (.int .i64 (M)))
    have Q2 := Lib.hid (HB2.out.grown q2 HB2.out.size (fun k hk => by injection hk with hk; omega))
    obtain ⟨W5, hW5⟩ : ∃ W5, W5 = ((w2.setCell ⟨w.heap.size + 1, 0, none⟩ (.int .i64 (A))).setCell ⟨w.heap.size + 1, 1, none⟩ (.int .i64 (B))).setCell ⟨w.heap.size + 1, 2, none⟩ (.int .i64 (M)) := ⟨_, rfl⟩
    rw [← hW5] at q1 Q2 ⊢
    have t0 := blk_cell q1 0
    have t1 := blk_cell q1 1
    have t2 := blk_cell q1 2
    simp only [Array.setIfInBounds] at t0 t1 t2
    simp at t0 t1 t2
    clear hW5 q1
    exact bodyPost_ret (v := .agg #[.int .i64 (A), .int .i64 (B), .int .i64 (M)]) (by simp [results, Try.results45, go_sem, t0, t1, t2]) rfl ⟨by rw [EA.out, EB.out, EM.out], Q2.out⟩

set_option maxHeartbeats 1000000 in
/-- impl.SketchShare. -/
theorem impl_sk {lim : Nat} {w : World} {v : Value} {zs : List Int} {s : Int} (h : Rd lim .i64 w v zs) (hlim : lim ≤ w.heap.size) (hs : (Lit.int .i64 s).wf = true) :
    Calls Try.prog 17 #[v, .int .i64 s] w fun e w' => e = .returned (.tuple #[.int .i64 (kA s zs), .int .i64 (kB s zs), .int .i64 (kM zs)]) ∧ Below w.heap.size w w' := by
  have HCL := Lib.hid (sv_any h hlim hs)
  clear h hlim hs
  obtain ⟨A, hA⟩ : ∃ A, A = kA s zs := ⟨_, rfl⟩
  obtain ⟨B, hB⟩ : ∃ B, B = kB s zs := ⟨_, rfl⟩
  obtain ⟨M, hM⟩ : ∃ M, M = kM zs := ⟨_, rfl⟩
  rw [← hA, ← hB, ← hM] at HCL ⊢
  clear hA hB hM
  go_enter Try.func17, Try.ntmps17
  go_wp2_with fail
  refine HCL.out.mono ?_
  rintro e w1 ⟨rfl, hb⟩
  have HB := Lib.hid (hb.alloc hb.size (.cells #[.int .i64 (A), .int .i64 (B), .int .i64 (M)] 53))
  have HP : Hid ((w1.alloc (.cells #[.int .i64 (A), .int .i64 (B), .int .i64 (M)] 53)).heap[w1.heap.size]? = some (.cells #[.int .i64 (A), .int .i64 (B), .int .i64 (M)] 53)) := Lib.hid (heap_alloc_new w1 _)
  have r0 := blk_cell HP.out 0
  have r1 := blk_cell HP.out 1
  have r2 := blk_cell HP.out 2
  rw [thr0] at r0
  rw [thr1] at r1
  rw [thr2] at r2
  clear hb
  go_wp2_with fail
  go_quiet (fail)
  go_wp2_with fail
  exact bodyPost_ret (v := .tuple #[.int .i64 A, .int .i64 B, .int .i64 M]) (by simp [results, Try.results17, go_sem]) rfl ⟨rfl, HB.out.trans (below_drewN ⟨_, rfl⟩)⟩



set_option maxHeartbeats 1000000 in
/-- JoinSketches' closure. -/
theorem js1_any {lim b : Nat} {w : World} {v : Value} {zs : List Int} {s i : Int} (hc : w.cell? ⟨b, 0, none⟩ = some (.int .i64 s)) (h : Rd lim .i64 w v zs) (hlim : lim ≤ w.heap.size) (hs : (Lit.int .i64 s).wf = true) :
    Calls Try.prog 44 #[.int .i64 i, v, .pointer (some ⟨b, 0, none⟩)] w fun e w' => e = .returned (.agg #[.int .i64 (kA s zs), .int .i64 (kB s zs), .int .i64 (kM zs)]) ∧ Below w.heap.size w w' := by
  have hbl := block_lt_of_cell hc
  have HB := Lib.hid ((Below.refl w.heap.size w).alloc (Nat.le_refl _) (.cells #[.int .i64 (0), .int .i64 (0), .int .i64 (0)] 53))
  have HC : Hid ((w.alloc (.cells #[.int .i64 (0), .int .i64 (0), .int .i64 (0)] 53)).cell? ⟨b, 0, none⟩ = some (.int .i64 s)) := Lib.hid (((HB.out).cell (p := ⟨b, 0, none⟩) hbl).trans hc)
  have HR : Hid ((w.alloc (.cells #[.int .i64 (0), .int .i64 (0), .int .i64 (0)] 53)).heap[w.heap.size]? = some (.cells #[.int .i64 (0), .int .i64 (0), .int .i64 (0)] 53)) := Lib.hid (heap_alloc_new w _)
  have HCL := Lib.hid (sv_any (h.behind (HB.out.mono hlim)) (Nat.le_trans hlim HB.out.size) hs)
  obtain ⟨A, hA⟩ : ∃ A, A = kA s zs := ⟨_, rfl⟩
  obtain ⟨B, hB⟩ : ∃ B, B = kB s zs := ⟨_, rfl⟩
  obtain ⟨M, hM⟩ : ∃ M, M = kM zs := ⟨_, rfl⟩
  rw [← hA, ← hB, ← hM] at HCL ⊢
  clear hc h hs hA hB hM hbl hlim
  have hc := HC.out
  go_enter Try.func44, Try.ntmps44
  go_wp2_with fail
  clear hc
  refine HCL.out.mono ?_
  rintro e w1 ⟨rfl, hb⟩
  have HR1 := Lib.hid ((hb.block w.heap.size (by simp)).trans HR.out)
  have HB1 := Lib.hid (HB.out.trans (hb.mono HB.out.size))
  clear hb
  have f0 := blk_free HR1.out 0
  have f1 := blk_free HR1.out 1
  have f2 := blk_free HR1.out 2
  have r0 := blk_cell HR1.out 0
  have r1 := blk_cell HR1.out 1
  have r2 := blk_cell HR1.out 2
  rw [thr0] at r0
  rw [thr1] at r1
  rw [thr2] at r2
  go_wp2_with fail
  have q1 := blk_set (blk_set (blk_set HR1.out 0 (.int .i64 (A))) 1 (.int .i64 (B))) 2 (.int .i64 (M))
  have q2 := ((grown_set w1 w.heap.size 0 (.int .i64 (A))).trans (grown_set _ w.heap.size 1 (.int .i64 (B)))).trans (grown_set _ w.heap.size 2 (.int .i64 (M)))
  have Q2 := Lib.hid (HB1.out.grown q2 HB1.out.size (fun k hk => by injection hk with hk; omega))
  obtain ⟨W5, hW5⟩ : ∃ W5, W5 = ((w1.setCell ⟨w.heap.size, 0, none⟩ (.int .i64 (A))).setCell ⟨w.heap.size, 1, none⟩ (.int .i64 (B))).setCell ⟨w.heap.size, 2, none⟩ (.int .i64 (M)) := ⟨_, rfl⟩
  rw [← hW5] at q1 Q2 ⊢
  have t0 := blk_cell q1 0
  have t1 := blk_cell q1 1
  have t2 := blk_cell q1 2
  simp only [Array.setIfInBounds] at t0 t1 t2
  simp at t0 t1 t2
  clear hW5 q1
  exact bodyPost_ret (v := .agg #[.int .i64 (A), .int .i64 (B), .int .i64 (M)]) (by simp [results, Try.results44, go_sem, t0, t1, t2]) rfl ⟨rfl, Q2.out⟩

theorem jz_sums (s : Int) (zss : List (List Int)) : gs (fun i => kA s (zss.getD i [])) zss.length = tA s zss ∧ gs (fun i => kB s (zss.getD i [])) zss.length = tB s zss ∧ gs (fun i => kM (zss.getD i [])) zss.length = tM zss :=
  ⟨gs_j _ _ _, gs_j _ _ _, gs_j _ _ _⟩
theorem k_bnd (s : Int) (zs : List Int) : (0 ≤ kA s zs ∧ kA s zs ≤ 2000000000) ∧ (0 ≤ kB s zs ∧ kB s zs ≤ 2000000000) ∧ 0 ≤ kM zs ∧ kM zs ≤ 2000000000 := by
  have h1 := kA_bound s zs
  have h2 := kB_bound s zs
  have h3 := kM_bound zs
  omega

set_option maxHeartbeats 1000000 in
/-- impl.JoinSketches. -/
theorem impl_jsk {lim : Nat} {w : World} {v : Value} {zss : List (List Int)} {s : Int} (h : Rd2 lim .i64 w v zss) (hlim : lim ≤ w.heap.size) (hs : (Lit.int .i64 s).wf = true) :
    Calls Try.prog 16 #[v, .int .i64 s] w fun e w' => e = .returned (.tuple #[.int .i64 (tA s zss), .int .i64 (tB s zss), .int .i64 (tM zss)]) ∧ Below w.heap.size w w' := by
  have hmf : ∀ (fn : Fn) (first cap : Array Value) (w : World), (Instr.makeFunc fn first cap).run Try.prog w = .ok (.func fn first cap) w := fun _ _ _ _ => rfl
  obtain ⟨W, hW⟩ : ∃ W, W = w.alloc (.cells #[.int .i64 s] 3) := ⟨_, rfl⟩
  have HB : Hid (Below w.heap.size w W) := Lib.hid (by rw [hW]; exact (Below.refl _ _).alloc (Nat.le_refl _) _)
  have HC : Hid (W.cell? ⟨w.heap.size, 0, none⟩ = some (.int .i64 s)) := Lib.hid (by rw [hW]; exact blk_cell (heap_alloc_new w _) 0)
  have HSz : Hid (W.heap.size = w.heap.size + 1) := Lib.hid (by rw [hW, World.size_alloc])
  have hV := h.behind (HB.out.mono hlim)
  have HL := Lib.hid hlim
  have HCL := Lib.hid (sumS_any (b := w.heap.size) (fA := fun i => kA s (zss.getD i [])) (fB := fun i => kB s (zss.getD i [])) (fM := fun i => kM (zss.getD i [])) hV (by have := HSz.out; have := HL.out; omega) (fun i hi => k_bnd _ _)
      (fun i u w1 hi hb hr => js1_any ((hb.cell (p := ⟨w.heap.size, 0, none⟩) (by have := HSz.out; show w.heap.size < _; omega)).trans HC.out) hr (by have := hb.size; have := HSz.out; have := HL.out; omega) hs))
  obtain ⟨k1, k2, k3⟩ := jz_sums s zss
  rw [k1, k2, k3] at HCL
  have HW := Lib.hid hW
  clear h hW hs hlim hV k1 k2 k3
  obtain ⟨A, hA⟩ : ∃ A, A = tA s zss := ⟨_, rfl⟩
  obtain ⟨B, hB⟩ : ∃ B, B = tB s zss := ⟨_, rfl⟩
  obtain ⟨M, hM⟩ : ∃ M, M = tM zss := ⟨_, rfl⟩
  rw [← hA, ← hB, ← hM] at HCL ⊢
  clear hA hB hM
  go_enter Try.func16, Try.ntmps16
  go_wp2_with fail
  rw [← HW.out]
  refine HCL.out.mono ?_
  rintro e w1 ⟨rfl, hb⟩
  have hb1 := HB.out.trans (hb.mono HB.out.size)
  have HB1 := Lib.hid (hb1.alloc hb1.size (.cells #[.int .i64 (A), .int .i64 (B), .int .i64 (M)] 53))
  have HP : Hid ((w1.alloc (.cells #[.int .i64 (A), .int .i64 (B), .int .i64 (M)] 53)).heap[w1.heap.size]? = some (.cells #[.int .i64 (A), .int .i64 (B), .int .i64 (M)] 53)) := Lib.hid (heap_alloc_new w1 _)
  have r0 := blk_cell HP.out 0
  have r1 := blk_cell HP.out 1
  have r2 := blk_cell HP.out 2
  rw [thr0] at r0
  rw [thr1] at r1
  rw [thr2] at r2
  clear hb hb1
  go_wp2_with fail
  go_quiet (fail)
  go_wp2_with fail
  exact bodyPost_ret (v := .tuple #[.int .i64 A, .int .i64 B, .int .i64 M]) (by simp [results, Try.results16, go_sem]) rfl ⟨rfl, HB1.out.trans (below_drewN ⟨_, rfl⟩)⟩


end Go.Proofs.Ytckhmjdhdoomdaa