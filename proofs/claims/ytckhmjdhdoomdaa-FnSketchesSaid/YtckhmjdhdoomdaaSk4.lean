/- Checks of writes: the sketch of a vector and of shares; the document's. No conditions but numbers that a machine holds. -/
import Derived.Test.YtckhmjdhdoomdaaSk1
namespace Go.Proofs.Ytckhmjdhdoomdaa
open Go Go.RowKit
set_option linter.unusedVariables false
attribute [local irreducible] kh kid chl

theorem mod_rr (b r z : Int) : (b + r * r % 1019 * z) % 1019 = (b + r * r * z) % 1019 := by
  rw [Int.add_emod, Int.mul_emod (r * r % 1019) z, Int.emod_emod, ← Int.mul_emod, ← Int.add_emod]

set_option maxHeartbeats 2000000 in
/-- spec.SketchShare. -/
theorem spec_sk {lim : Nat} {w : World} {v : Value} {zs : List Int} {s : Int} (h : Rd lim .i64 w v zs) (hlim : lim ≤ w.heap.size) (hs : (Lit.int .i64 s).wf = true) :
    Calls Try.prog 31 #[v, .int .i64 s] w fun e w' => e = .returned (.tuple #[.int .i64 (kA s zs), .int .i64 (kB s zs), .int .i64 (kM zs)]) ∧ Below w.heap.size w w' := by
  have HOk := Lib.hid (ok12_any h)
  obtain ⟨a, cap, rfl, h1, h2, hc⟩ := h.open
  have Hc := Lib.hid hc
  unfold maxLen at h2
  have HL := Lib.hid hlim
  have HSw := Lib.hid hs
  clear h hc hlim hs
  cases hv : fvec zs with
  | false =>
    rw [hv] at HOk
    have HK : Hid (kA s zs = 0 ∧ kB s zs = 0 ∧ kM zs = 0) := Lib.hid (by unfold kA kB kM; rw [hv]; exact ⟨rfl, rfl, rfl⟩)
    clear hv
    go_enter Try.func31, Try.ntmps31
    go_wp2_with fail
    refine HOk.out.mono ?_
    rintro e w1 ⟨rfl, hw⟩
    subst hw
    go_wp2_with fail
    exact bodyPost_ret (v := .tuple #[.int .i64 0, .int .i64 0, .int .i64 0]) (by simp [results, Try.results31, go_sem]) rfl ⟨by rw [HK.out.1, HK.out.2.1, HK.out.2.2], Below.refl _ _⟩
  | true =>
    rw [hv] at HOk
    have HK : Hid (kA s zs = sA s zs zs.length ∧ kB s zs = sB s zs zs.length ∧ kM zs = sM zs zs.length) := Lib.hid (by unfold kA kB kM; rw [hv]; exact ⟨rfl, rfl, rfl⟩)
    have HF := Lib.hid (fvec_iff.1 hv)
    clear hv
    go_enter Try.func31, Try.ntmps31
    go_wp2_with fail
    refine HOk.out.mono ?_
    rintro e w1 ⟨rfl, hw⟩
    subst hw
    go_wp2_with fail
    go_loopw [7, 8, 9, 10] (fun x y m i wr => ∃ j : Nat, i = .int .i64 j ∧ x = .int .i64 (sA s zs j) ∧ y = .int .i64 (sB s zs j) ∧ m = .int .i64 (sM zs j) ∧ j ≤ zs.length ∧ Below w1.heap.size w1 wr) (fun _ _ _ i _ => zs.length - (intOf i).toNat)
    case atStart => exact ⟨0, rfl, rfl, rfl, rfl, Nat.zero_le _, Below.refl _ _⟩
    case round =>
      obtain ⟨j, rfl, rfl, rfl, rfl, hj, hB⟩ := hrel
      have HB := Lib.hid hB
      clear hB
      by_cases hlt : j < zs.length
      · have e1 : decide ((j : Int) < (zs.length : Int)) = true := by simp; omega
        obtain ⟨b, o, rfl, hb, hcell⟩ := Hc.out (by omega)
        have hz := HF.out.2 j hlt
        have hj64 : j ≤ 64 := by have := HF.out.1; omega
        have he : wrap64 (7000 + (j : Int)) = 7000 + (j : Int) := by unfold wrap64; omega
        have HE : Hid (chl s (wrap64 (7000 + (j : Int))) = chal s j) := Lib.hid (by rw [he]; rfl)
        have HI := Lib.hid (wf_i64_of (n := (j : Int)) (by omega) (by omega))
        have G1 : Hid ((sA s zs j + chal s j * zs.getD j 0) % 1019 = sA s zs (j + 1)) := Lib.hid rfl
        have G2 : Hid ((sB s zs j + chal s j * chal s j % 1019 * zs.getD j 0) % 1019 = sB s zs (j + 1)) := Lib.hid (by rw [mod_rr]; rfl)
        have G3 : Hid ((sM zs j + zs.getD j 0) % 1019 = sM zs (j + 1)) := Lib.hid (sM_succ _ _).symm
        have g1 := sA_bound s zs j
        have g2 := sB_bound s zs j
        have g3 := sM_bound zs j
        have hr := chal_bound s j
        obtain ⟨A, hA⟩ : ∃ A, A = sA s zs j := ⟨_, rfl⟩
        obtain ⟨B, hB⟩ : ∃ B, B = sB s zs j := ⟨_, rfl⟩
        obtain ⟨M, hM⟩ : ∃ M, M = sM zs j := ⟨_, rfl⟩
        obtain ⟨r, hr'⟩ : ∃ r, r = chal s j := ⟨_, rfl⟩
        obtain ⟨z, hz'⟩ : ∃ z, z = zs.getD j 0 := ⟨_, rfl⟩
        rw [← hr'] at HE hr G1 G2
        rw [← hA] at G1 g1
        rw [← hB] at G2 g2
        rw [← hM] at G3 g3
        rw [← hz'] at G1 G2 G3 hz
        have a1 := sq_bounds (x := r) (y := z) (by omega) hz
        have a2 := m1019 (r * r)
        have a5 := sq_bounds (x := r) (y := r) (by omega) (by omega)
        have a3 := sq_bounds (x := r * r % 1019) (y := z) a2 hz
        have HCell : Hid (∀ wr, Below w1.heap.size w1 wr → wr.cell? ⟨b, o + j, none⟩ = some (.int .i64 z)) := Lib.hid (fun wr hb => by rw [hz']; exact hcell wr (hb.mono HL.out) j hlt)
        have A1 := Lib.hid a1
        have A2 := Lib.hid a2
        have A3 := Lib.hid a3
        have A5 := Lib.hid a5
        have P1 := Lib.hid g1
        have P2 := Lib.hid g2
        have P3 := Lib.hid g3
        have PZ := Lib.hid hz
        rw [← hA, ← hB, ← hM]
        clear hcell hz hz' he hr' a1 a2 a3 a5 g1 g2 g3 hr hA hB hM
        go_wp2_with fail
        refine (spec_ch HSw.out HI.out).mono ?_
        rw [HE.out]
        rintro e w2 ⟨rfl, hb2⟩
        have HB2 := Lib.hid (HB.out.trans (hb2.mono HB.out.size))
        have c1 := HCell.out w2 HB2.out
        have a1 := A1.out
        have a2 := A2.out
        have a3 := A3.out
        have a5 := A5.out
        have g1 := P1.out
        have g2 := P2.out
        have g3 := P3.out
        have hz := PZ.out
        clear hb2
        go_wp2_with fail
        go_roundw
        case rel => exact ⟨j + 1, by simp, by rw [← G1.out], by rw [← G2.out], by rw [← G3.out], hlt, HB2.out⟩
        case measure => simp [intOf]; omega
      · have e1 : decide ((j : Int) < (zs.length : Int)) = false := by simp; omega
        obtain rfl : j = zs.length := by omega
        obtain ⟨A, hA⟩ : ∃ A, A = sA s zs zs.length := ⟨_, rfl⟩
        obtain ⟨B, hB⟩ : ∃ B, B = sB s zs zs.length := ⟨_, rfl⟩
        obtain ⟨M, hM⟩ : ∃ M, M = sM zs zs.length := ⟨_, rfl⟩
        rw [← hA, ← hB, ← hM] at HK
        rw [← hA, ← hB, ← hM]
        clear hA hB hM
        go_wp2_with fail
        exact bodyPost_ret (v := .tuple #[.int .i64 A, .int .i64 B, .int .i64 M]) (by simp [results, Try.results31, go_sem]) rfl ⟨by rw [HK.out.1, HK.out.2.1, HK.out.2.2], HB.out⟩

set_option maxHeartbeats 2000000 in
/-- spec.JoinSketches. -/
theorem spec_jsk {lim : Nat} {w : World} {v : Value} {zss : List (List Int)} {s : Int} (h : Rd2 lim .i64 w v zss) (hlim : lim ≤ w.heap.size) (hs : (Lit.int .i64 s).wf = true) :
    Calls Try.prog 33 #[v, .int .i64 s] w fun e w' => e = .returned (.tuple #[.int .i64 (tA s zss), .int .i64 (tB s zss), .int .i64 (tM zss)]) ∧ Below w.heap.size w w' := by
  obtain ⟨a, cap, rfl, h1, h2, hc⟩ := h.open
  have Hc := Lib.hid hc
  unfold maxLen at h2
  have HL := Lib.hid hlim
  have HSw := Lib.hid hs
  clear h hc hlim hs
  go_enter Try.func33, Try.ntmps33
  go_wp2_with fail
  go_loopw [7, 8, 9, 10] (fun x y m i wr => ∃ j : Nat, i = .int .i64 j ∧ x = .int .i64 (jA s zss j) ∧ y = .int .i64 (jB s zss j) ∧ m = .int .i64 (jM zss j) ∧ j ≤ zss.length ∧ Below w.heap.size w wr) (fun _ _ _ i _ => zss.length - (intOf i).toNat)
  case atStart => exact ⟨0, rfl, rfl, rfl, rfl, Nat.zero_le _, Below.refl _ _⟩
  case round =>
    obtain ⟨j, rfl, rfl, rfl, rfl, hj, hB⟩ := hrel
    have HB := Lib.hid hB
    clear hB
    by_cases hlt : j < zss.length
    · have e1 : decide ((j : Int) < (zss.length : Int)) = true := by simp; omega
      obtain ⟨zs, hzs⟩ : ∃ zs, zss[j]? = some zs := ⟨_, List.getElem?_eq_getElem hlt⟩
      obtain ⟨bb, o, rfl, hbb, hcell⟩ := Hc.out (by omega)
      obtain ⟨u, c1, hr⟩ := hcell wr (HB.out.mono HL.out) j zs hzs
      have HCL := Lib.hid (spec_sk hr (Nat.le_trans HL.out HB.out.size) HSw.out)
      obtain ⟨a1, k1, rfl, _⟩ := hr.open
      have G1 : Hid ((jA s zss j + kA s zs) % 1019 = jA s zss (j + 1)) := Lib.hid (by rw [jA_succ, getD_of hzs])
      have G2 : Hid ((jB s zss j + kB s zs) % 1019 = jB s zss (j + 1)) := Lib.hid (by rw [jB_succ, getD_of hzs])
      have G3 : Hid ((jM zss j + kM zs) % 1019 = jM zss (j + 1)) := Lib.hid (by rw [jM_succ, getD_of hzs])
      have g1 := jA_bound s zss j
      have g2 := jB_bound s zss j
      have g3 := jM_bound zss j
      have k1 := kA_bound s zs
      have k2 := kB_bound s zs
      have k3 := kM_bound zs
      obtain ⟨A, hA⟩ : ∃ A, A = jA s zss j := ⟨_, rfl⟩
      obtain ⟨B, hB⟩ : ∃ B, B = jB s zss j := ⟨_, rfl⟩
      obtain ⟨M, hM⟩ : ∃ M, M = jM zss j := ⟨_, rfl⟩
      obtain ⟨x, hx⟩ : ∃ x, x = kA s zs := ⟨_, rfl⟩
      obtain ⟨y, hy⟩ : ∃ y, y = kB s zs := ⟨_, rfl⟩
      obtain ⟨m, hm⟩ : ∃ m, m = kM zs := ⟨_, rfl⟩
      rw [← hA, ← hx] at G1
      rw [← hB, ← hy] at G2
      rw [← hM, ← hm] at G3
      rw [← hA] at g1
      rw [← hB] at g2
      rw [← hM] at g3
      rw [← hx] at k1
      rw [← hy] at k2
      rw [← hm] at k3
      rw [← hx, ← hy, ← hm] at HCL
      rw [← hA, ← hB, ← hM]
      clear hcell hr hzs hA hB hM hx hy hm
      go_wp2_with fail
      refine HCL.out.mono ?_
      rintro e w2 ⟨rfl, hb2⟩
      have HB2 := Lib.hid (HB.out.trans (hb2.mono HB.out.size))
      clear hb2
      go_wp2_with fail
      go_roundw
      case rel => exact ⟨j + 1, by simp, by rw [← G1.out], by rw [← G2.out], by rw [← G3.out], hlt, HB2.out⟩
      case measure => simp [intOf]; omega
    · have e1 : decide ((j : Int) < (zss.length : Int)) = false := by simp; omega
      obtain rfl : j = zss.length := by omega
      obtain ⟨A, hA⟩ : ∃ A, A = jA s zss zss.length := ⟨_, rfl⟩
      obtain ⟨B, hB⟩ : ∃ B, B = jB s zss zss.length := ⟨_, rfl⟩
      obtain ⟨M, hM⟩ : ∃ M, M = jM zss zss.length := ⟨_, rfl⟩
      have EA : Hid (A = tA s zss) := Lib.hid hA
      have EB : Hid (B = tB s zss) := Lib.hid hB
      have EM : Hid (M = tM zss) := Lib.hid hM
      rw [← hA, ← hB, ← hM]
      clear hA hB hM
      go_wp2_with fail
      exact bodyPost_ret (v := .tuple #[.int .i64 A, .int .i64 B, .int .i64 M]) (by simp [results, Try.results33, go_sem]) rfl ⟨by rw [EA.out, EB.out, EM.out], HB.out⟩

end Go.Proofs.Ytckhmjdhdoomdaa
