/- Nodes of point keys: EvaluateNode, the program's and the document's, and the program's small functions. No conditions but numbers that a machine holds. -/
import Derived.Test.YtaekjnacigicoaaPkN
import Derived.Test.YtaekjnacigicoaaBbR
import Derived.Test.YtaekjnacigicoaaHp10
import Derived.RegionTactic
import Derived.Deep.RegionWith
import Derived.Deep.QuietTactic
import Derived.BigQuiet
namespace Go.Proofs.Ytaekjnacigicoaa
open Go Go.RowKit
set_option linter.unusedVariables false
attribute [local irreducible] kh

theorem isBit_any {w : World} {n : Int} (hn : (Lit.int .i64 n).wf = true) : Calls Try.prog 37 #[.int .i64 n] w fun e w' => e = .returned (.bool (inR n 0 1)) ∧ w' = w := by
  have HN := Lib.hid hn
  clear hn
  go_enter Try.func37, Try.ntmps37
  go_wp2_with fail
  refine (impl_in _ _ _ _ HN.out).mono ?_
  rintro e w1 ⟨rfl, hw⟩
  subst hw
  go_wp2
  go_ret
  exact ⟨rfl, rfl⟩
theorem isRoot_any {w : World} {n : Int} (hn : (Lit.int .i64 n).wf = true) : Calls Try.prog 14 #[.int .i64 n] w fun e w' => e = .returned (.bool (inR n 0 2147483646)) ∧ w' = w := by
  have HN := Lib.hid hn
  clear hn
  go_enter Try.func14, Try.ntmps14
  go_wp2_with fail
  refine (impl_in _ _ _ _ HN.out).mono ?_
  rintro e w1 ⟨rfl, hw⟩
  subst hw
  go_wp2
  go_ret
  exact ⟨rfl, rfl⟩
theorem depth_any {w : World} {a : Option Addr} {n cap : Nat} : Calls Try.prog 27 #[.slice a n cap] w fun e w' => e = .returned (.int .i64 (n : Int)) ∧ w' = w := by
  go_enter Try.func27, Try.ntmps27
  go_wp2
  go_ret
  exact ⟨rfl, rfl⟩

theorem inR01 {x : Int} (h : inR x 0 1 = true) : x = 0 ∨ x = 1 := by
  unfold inR at h
  simp at h
  omega

set_option maxHeartbeats 2000000 in
/-- impl.EvaluateNode -/
theorem impl_ev {w : World} {s t sd : Int} {c : Cor} (hs : (Lit.int .i64 s).wf = true) (hd : (Lit.int .i64 sd).wf = true) :
    Calls Try.prog 31 #[.int .i64 s, .int .i64 t, .int .i64 sd, .agg #[.int .i64 c.1, .int .i64 c.2.1, .int .i64 c.2.2]] w fun e w' => e = .returned (.tuple #[.int .i64 (evN s t sd c).1, .int .i64 (evN s t sd c).2]) ∧ Below w.heap.size w w' := by
  obtain ⟨x, hx⟩ : ∃ x, x = evN s t sd c := ⟨_, rfl⟩
  rw [← hx]
  have HX := Lib.hid hx
  have HS := Lib.hid hs
  have HD := Lib.hid hd
  have HB := Lib.hid ((Below.refl w.heap.size w).alloc (Nat.le_refl _) (.cells #[.int .i64 c.1, .int .i64 c.2.1, .int .i64 c.2.2] 47))
  have HK := Lib.hid (heap_alloc_new w (.cells #[.int .i64 c.1, .int .i64 c.2.1, .int .i64 c.2.2] 47))
  clear hx hs hd
  by_cases h1 : inR sd 0 1 = true
  · have Hr := Lib.hid h1
    have h01 := inR01 h1
    clear h1
    go_enter Try.func31, Try.ntmps31
    go_wp2_with fail
    refine (impl_in _ _ _ _ HD.out).mono ?_
    rw [Hr.out]
    rintro e w1 ⟨rfl, hw⟩
    subst hw
    go_wp2_with fail
    refine (impl_cs HS.out HD.out).mono ?_
    obtain ⟨k, hk⟩ : ∃ k, k = kid s sd := ⟨_, rfl⟩
    rw [← hk]
    have HKk := Lib.hid hk
    clear hk
    rintro e w1 ⟨rfl, hb⟩
    replace HK := Lib.hid ((hb.block _ (lt_of_block HK.out)).trans HK.out)
    replace HB := Lib.hid (HB.out.trans (hb.mono HB.out.size))
    clear hb
    go_wp2_with fail
    refine (impl_cb HS.out HD.out).mono ?_
    obtain ⟨q, hq⟩ : ∃ q, q = ctl s sd := ⟨_, rfl⟩
    rw [← hq]
    have HQ := Lib.hid hq
    clear hq
    rintro e w2 ⟨rfl, hb⟩
    replace HK := Lib.hid ((hb.block _ (lt_of_block HK.out)).trans HK.out)
    replace HB := Lib.hid (HB.out.trans (hb.mono HB.out.size))
    clear hb
    by_cases ht : t = 1
    · subst ht
      have c0 := blk_cell HK.out 0
      have c1 := blk_cell HK.out 1
      have c2 := blk_cell HK.out 2
      simp only [show ∀ x y z : Value, (#[x, y, z] : Array Value)[0]? = some x from fun _ _ _ => rfl, show ∀ x y z : Value, (#[x, y, z] : Array Value)[1]? = some y from fun _ _ _ => rfl, show ∀ x y z : Value, (#[x, y, z] : Array Value)[2]? = some z from fun _ _ _ => rfl] at c0 c1 c2
      rcases h01 with rfl | rfl
      · have HE : Hid (x = (bits .xor .i64 k c.1, bits .xor .i64 q c.2.1)) := Lib.hid (by rw [HX.out]; unfold evN; rw [if_pos Hr.out, if_pos rfl, if_pos rfl, HKk.out, HQ.out]; rfl)
        go_wp2_with fail
        obtain ⟨W3, hW3⟩ : ∃ W, W = w2.alloc (.cells #[.int .i64 c.2.1, .int .i64 c.2.2] 75) := ⟨_, rfl⟩
        have K3 := (heap_alloc_old w2 (.cells #[.int .i64 c.2.1, .int .i64 c.2.2] 75) (lt_of_block HK.out)).trans HK.out
        have A3 := heap_alloc_new w2 (.cells #[.int .i64 c.2.1, .int .i64 c.2.2] 75)
        have HB3 := Lib.hid (HB.out.alloc HB.out.size (.cells #[.int .i64 c.2.1, .int .i64 c.2.2] 75))
        rw [← hW3] at K3 A3 HB3 ⊢
        clear c0 c1 c2 hW3
        have c0 : W3.cell? ⟨w.heap.size, 0, none⟩ = some (.int .i64 c.1) := blk_cell K3 0
        have c1 : W3.cell? ⟨w2.heap.size, 0, none⟩ = some (.int .i64 c.2.1) := blk_cell A3 0
        have c2 : W3.cell? ⟨w2.heap.size, 1, none⟩ = some (.int .i64 c.2.2) := blk_cell A3 1
        clear K3 A3
        go_quiet (fail)
        go_wp2_with fail
        go_ret2
        exact ⟨by rw [HE.out]; rfl, HB3.out.trans (below_drewN ⟨_, rfl⟩)⟩
      · have HE : Hid (x = (bits .xor .i64 k c.1, bits .xor .i64 q c.2.2)) := Lib.hid (by rw [HX.out]; unfold evN; rw [if_pos Hr.out, if_pos rfl, if_neg (by decide), HKk.out, HQ.out]; rfl)
        go_wp2_with fail
        obtain ⟨W3, hW3⟩ : ∃ W, W = w2.alloc (.cells #[.int .i64 c.2.1, .int .i64 c.2.2] 75) := ⟨_, rfl⟩
        have K3 := (heap_alloc_old w2 (.cells #[.int .i64 c.2.1, .int .i64 c.2.2] 75) (lt_of_block HK.out)).trans HK.out
        have A3 := heap_alloc_new w2 (.cells #[.int .i64 c.2.1, .int .i64 c.2.2] 75)
        have HB3 := Lib.hid (HB.out.alloc HB.out.size (.cells #[.int .i64 c.2.1, .int .i64 c.2.2] 75))
        rw [← hW3] at K3 A3 HB3 ⊢
        clear c0 c1 c2 hW3
        have c0 : W3.cell? ⟨w.heap.size, 0, none⟩ = some (.int .i64 c.1) := blk_cell K3 0
        have c1 : W3.cell? ⟨w2.heap.size, 0, none⟩ = some (.int .i64 c.2.1) := blk_cell A3 0
        have c2 : W3.cell? ⟨w2.heap.size, 1, none⟩ = some (.int .i64 c.2.2) := blk_cell A3 1
        clear K3 A3
        go_quiet (fail)
        go_wp2_with fail
        go_ret2
        exact ⟨by rw [HE.out]; rfl, HB3.out.trans (below_drewN ⟨_, rfl⟩)⟩
    · have e1 : (t != 1) = true := by simpa using ht
      have HE : Hid (x = (k, q)) := Lib.hid (by rw [HX.out]; unfold evN; rw [if_pos Hr.out, if_neg ht, HKk.out, HQ.out])
      clear ht
      go_wp2_with fail
      go_ret2
      exact ⟨by rw [HE.out]; rfl, HB.out⟩
  · have HE : Hid (x = (0, 0)) := Lib.hid (by rw [HX.out]; unfold evN; rw [if_neg h1])
    have Hr : Hid (inR sd 0 1 = false) := Lib.hid (by simpa using h1)
    clear h1
    go_enter Try.func31, Try.ntmps31
    go_wp2_with fail
    refine (impl_in _ _ _ _ HD.out).mono ?_
    rw [Hr.out]
    rintro e w1 ⟨rfl, hw⟩
    subst hw
    go_wp2_with fail
    go_ret2
    exact ⟨by rw [HE.out]; rfl, HB.out⟩

theorem tw0 (x y : Value) : (#[x, y] : Array Value)[0]? = some x := rfl
theorem tw1 (x y : Value) : (#[x, y] : Array Value)[1]? = some y := rfl
theorem th0 (x y z : Value) : (#[x, y, z] : Array Value)[0]? = some x := rfl
theorem th1 (x y z : Value) : (#[x, y, z] : Array Value)[1]? = some y := rfl
theorem th2 (x y z : Value) : (#[x, y, z] : Array Value)[2]? = some z := rfl

/-- A block of two cells, written whole. -/
theorem put2 {w : World} {b : Nat} {y z : Value} {t : TypeId} (h : w.heap[b]? = some (.cells #[y, z] t (0, 0))) (u v : Value) :
    ((w.setCell ⟨b, 0, none⟩ u).setCell ⟨b, 1, none⟩ v).heap[b]? = some (.cells #[u, v] t (0, 0)) ∧ KeptF (fun c => c = b) w ((w.setCell ⟨b, 0, none⟩ u).setCell ⟨b, 1, none⟩ v) :=
  ⟨blk_set (blk_set h 0 u) 1 v, (KeptF.of_grown (F := fun c => c = b) (grown_set w b 0 u) (fun c hc => by injection hc with hc; exact hc.symm)).trans (KeptF.of_grown (grown_set _ b 1 v) (fun c hc => by injection hc with hc; exact hc.symm))⟩
/-- A block of three cells, written whole. -/
theorem put3 {w : World} {b : Nat} {x y z : Value} {t : TypeId} (h : w.heap[b]? = some (.cells #[x, y, z] t (0, 0))) (r u v : Value) :
    (((w.setCell ⟨b, 0, none⟩ r).setCell ⟨b, 1, none⟩ u).setCell ⟨b, 2, none⟩ v).heap[b]? = some (.cells #[r, u, v] t (0, 0)) ∧ KeptF (fun c => c = b) w (((w.setCell ⟨b, 0, none⟩ r).setCell ⟨b, 1, none⟩ u).setCell ⟨b, 2, none⟩ v) :=
  ⟨blk_set (blk_set (blk_set h 0 r) 1 u) 2 v, ((KeptF.of_grown (F := fun c => c = b) (grown_set w b 0 r) (fun c hc => by injection hc with hc; exact hc.symm)).trans (KeptF.of_grown (grown_set _ b 1 u) (fun c hc => by injection hc with hc; exact hc.symm))).trans (KeptF.of_grown (grown_set _ b 2 v) (fun c hc => by injection hc with hc; exact hc.symm))⟩

set_option maxHeartbeats 2000000 in
/-- node.child -/
theorem child_any {w : World} {s t sd : Int} {c : Cor} (hs : (Lit.int .i64 s).wf = true) (hd : (Lit.int .i64 sd).wf = true) :
    Calls Try.prog 17 #[.agg #[.int .i64 s, .int .i64 t], .int .i64 sd, .agg #[.int .i64 c.1, .int .i64 c.2.1, .int .i64 c.2.2]] w fun e w' => e = .returned (.agg #[.int .i64 (evN s t sd c).1, .int .i64 (evN s t sd c).2]) ∧ Below w.heap.size w w' := by
  obtain ⟨x, hx⟩ : ∃ x, x = evN s t sd c := ⟨_, rfl⟩
  rw [← hx]
  have HX := Lib.hid hx
  have HS := Lib.hid hs
  have HD := Lib.hid hd
  have HB := Lib.hid ((((Below.refl w.heap.size w).alloc (Nat.le_refl _) (.cells #[.int .i64 s, .int .i64 t] 44)).alloc (by simp) (.cells #[.int .i64 c.1, .int .i64 c.2.1, .int .i64 c.2.2] 47)).alloc (by simp; omega) (.cells #[.int .i64 0, .int .i64 0] 44))
  have K := blocks3T w (.cells #[.int .i64 s, .int .i64 t] 44) (.cells #[.int .i64 c.1, .int .i64 c.2.1, .int .i64 c.2.2] 47) (.cells #[.int .i64 0, .int .i64 0] 44)
  have KR := Lib.hid K.2.2
  clear hx hs hd K
  go_enter Try.func17, Try.ntmps17
  go_wp2_with fail
  refine (impl_ev HS.out HD.out).mono ?_
  rw [← HX.out]
  rintro e w1 ⟨rfl, hb⟩
  replace KR := Lib.hid ((hb.block _ (lt_of_block KR.out)).trans KR.out)
  replace HB := Lib.hid (HB.out.trans (hb.mono HB.out.size))
  clear hb
  have c0 := blk_cell KR.out 0
  have c1 := blk_cell KR.out 1
  have f0 := blk_free KR.out 0
  have f1 := blk_free KR.out 1
  rw [tw0] at c0
  rw [tw1] at c1
  go_wp2_with fail
  obtain ⟨p1, p2⟩ := put2 KR.out (.int .i64 x.1) (.int .i64 x.2)
  have Q2 := Lib.hid (HB.out.trans (p2.below (B := w.heap.size) (fun b hb => by omega) HB.out.size))
  obtain ⟨W5, hW5⟩ : ∃ W5, W5 = (w1.setCell ⟨w.heap.size + 1 + 1, 0, none⟩ (.int .i64 x.1)).setCell ⟨w.heap.size + 1 + 1, 1, none⟩ (.int .i64 x.2) := ⟨_, rfl⟩
  rw [← hW5] at p1 Q2 ⊢
  have r0 := blk_cell p1 0
  have r1 := blk_cell p1 1
  rw [tw0] at r0
  rw [tw1] at r1
  clear c0 c1 f0 f1 hW5 p1 p2
  exact bodyPost_ret (v := .agg #[.int .i64 x.1, .int .i64 x.2]) (by simp [results, Try.results17, go_sem, r0, r1]) rfl ⟨rfl, Q2.out⟩

set_option maxHeartbeats 4000000 in
/-- correctionFor -/
theorem cor_any {w : World} {a b sd : Int} (ha : (Lit.int .i64 a).wf = true) (hb : (Lit.int .i64 b).wf = true) (hd : sd = 0 ∨ sd = 1) :
    Calls Try.prog 16 #[.int .i64 a, .int .i64 b, .int .i64 sd] w fun e w' => e = .returned (.agg #[.int .i64 (cor1 a b sd).1, .int .i64 (cor1 a b sd).2.1, .int .i64 (cor1 a b sd).2.2]) ∧ Below w.heap.size w w' := by
  have hos : (Lit.int .i64 (1 - sd)).wf = true := by rcases hd with rfl | rfl <;> decide
  have hb1 : 0 ≤ sd ∧ sd ≤ 1 := by rcases hd with rfl | rfl <;> decide
  have HO := Lib.hid hos
  have HA := Lib.hid ha
  have HBb := Lib.hid hb
  have HB := Lib.hid ((Below.refl w.heap.size w).alloc (Nat.le_refl _) (.cells #[.int .i64 0, .int .i64 0, .int .i64 0] 47))
  have KR := Lib.hid (heap_alloc_new w (.cells #[.int .i64 0, .int .i64 0, .int .i64 0] 47))
  obtain ⟨k1, hk1⟩ : ∃ k, k = kid a (1 - sd) := ⟨_, rfl⟩
  obtain ⟨k2, hk2⟩ : ∃ k, k = kid b (1 - sd) := ⟨_, rfl⟩
  obtain ⟨q1, hq1⟩ : ∃ k, k = ctl a 0 := ⟨_, rfl⟩
  obtain ⟨q2, hq2⟩ : ∃ k, k = ctl b 0 := ⟨_, rfl⟩
  obtain ⟨q3, hq3⟩ : ∃ k, k = ctl a 1 := ⟨_, rfl⟩
  obtain ⟨q4, hq4⟩ : ∃ k, k = ctl b 1 := ⟨_, rfl⟩
  have HE : Hid (cor1 a b sd = (bits .xor .i64 k1 k2, bits .xor .i64 (bits .xor .i64 q1 q2) (1 - sd), bits .xor .i64 (bits .xor .i64 q3 q4) sd)) := Lib.hid (by rw [hk1, hk2, hq1, hq2, hq3, hq4]; rfl)
  have G1 := Lib.hid hk1
  have G2 := Lib.hid hk2
  have G3 := Lib.hid hq1
  have G4 := Lib.hid hq2
  have G5 := Lib.hid hq3
  have G6 := Lib.hid hq4
  clear ha hb hos hd hk1 hk2 hq1 hq2 hq3 hq4
  go_enter Try.func16, Try.ntmps16
  go_wp2_with fail
  refine (impl_cs HA.out HO.out).mono ?_
  rw [← G1.out]
  rintro e w1 ⟨rfl, hb⟩
  replace KR := Lib.hid ((hb.block _ (lt_of_block KR.out)).trans KR.out)
  replace HB := Lib.hid (HB.out.trans (hb.mono HB.out.size))
  clear hb
  go_wp2_with fail
  refine (impl_cs HBb.out HO.out).mono ?_
  rw [← G2.out]
  rintro e w2 ⟨rfl, hb⟩
  replace KR := Lib.hid ((hb.block _ (lt_of_block KR.out)).trans KR.out)
  replace HB := Lib.hid (HB.out.trans (hb.mono HB.out.size))
  clear hb
  go_wp2_with fail
  refine (impl_cb HA.out (by decide)).mono ?_
  rw [← G3.out]
  rintro e w3 ⟨rfl, hb⟩
  replace KR := Lib.hid ((hb.block _ (lt_of_block KR.out)).trans KR.out)
  replace HB := Lib.hid (HB.out.trans (hb.mono HB.out.size))
  clear hb
  go_wp2_with fail
  refine (impl_cb HBb.out (by decide)).mono ?_
  rw [← G4.out]
  rintro e w4 ⟨rfl, hb⟩
  replace KR := Lib.hid ((hb.block _ (lt_of_block KR.out)).trans KR.out)
  replace HB := Lib.hid (HB.out.trans (hb.mono HB.out.size))
  clear hb
  go_wp2_with fail
  refine (impl_cb HA.out (by decide)).mono ?_
  rw [← G5.out]
  rintro e w5 ⟨rfl, hb⟩
  replace KR := Lib.hid ((hb.block _ (lt_of_block KR.out)).trans KR.out)
  replace HB := Lib.hid (HB.out.trans (hb.mono HB.out.size))
  clear hb
  go_wp2_with fail
  refine (impl_cb HBb.out (by decide)).mono ?_
  rw [← G6.out]
  rintro e w6 ⟨rfl, hb⟩
  replace KR := Lib.hid ((hb.block _ (lt_of_block KR.out)).trans KR.out)
  replace HB := Lib.hid (HB.out.trans (hb.mono HB.out.size))
  clear hb
  obtain ⟨x1, hx1⟩ : ∃ x, x = bits .xor .i64 k1 k2 := ⟨_, rfl⟩
  obtain ⟨x2, hx2⟩ : ∃ x, x = bits .xor .i64 (bits .xor .i64 q1 q2) (1 - sd) := ⟨_, rfl⟩
  obtain ⟨x3, hx3⟩ : ∃ x, x = bits .xor .i64 (bits .xor .i64 q3 q4) sd := ⟨_, rfl⟩
  have HE2 : Hid (cor1 a b sd = (x1, x2, x3)) := Lib.hid (by rw [HE.out, hx1, hx2, hx3])
  have c0 := blk_cell KR.out 0
  have c1 := blk_cell KR.out 1
  have c2 := blk_cell KR.out 2
  have f0 := blk_free KR.out 0
  have f1 := blk_free KR.out 1
  have f2 := blk_free KR.out 2
  rw [th0] at c0
  rw [th1] at c1
  rw [th2] at c2
  go_wp2_with fail
  try rw [← hx1]
  try rw [← hx2]
  try rw [← hx3]
  obtain ⟨p1, p2⟩ := put3 KR.out (.int .i64 x1) (.int .i64 x2) (.int .i64 x3)
  have Q2 := Lib.hid (HB.out.trans (p2.below (B := w.heap.size) (fun b hb => by omega) HB.out.size))
  obtain ⟨W5, hW5⟩ : ∃ W5, W5 = ((w6.setCell ⟨w.heap.size, 0, none⟩ (.int .i64 x1)).setCell ⟨w.heap.size, 1, none⟩ (.int .i64 x2)).setCell ⟨w.heap.size, 2, none⟩ (.int .i64 x3) := ⟨_, rfl⟩
  rw [← hW5] at p1 Q2 ⊢
  have r0 := blk_cell p1 0
  have r1 := blk_cell p1 1
  have r2 := blk_cell p1 2
  rw [th0] at r0
  rw [th1] at r1
  rw [th2] at r2
  clear c0 c1 c2 f0 f1 f2 hW5 p1 p2
  rw [HE2.out]
  exact bodyPost_ret (v := .agg #[.int .i64 x1, .int .i64 x2, .int .i64 x3]) (by simp [results, Try.results16, go_sem, r0, r1, r2]) rfl ⟨rfl, Q2.out⟩

end Go.Proofs.Ytaekjnacigicoaa
