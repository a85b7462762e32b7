/- Chapter 17's draws: what SpendToken and MergeSpent take. No conditions but sizes that a machine holds. -/
import Derived.Test.YtdlbpeippmibcaaDraw17
import Derived.Test.YtdlbpeippmibcaaHeldL
namespace Go.Proofs.Ytdlbpeippmibcaa
open Go Go.RowKit
set_option linter.unusedVariables false
set_option maxRecDepth 20000
attribute [local irreducible] kh kid pwm tcm pw chl

set_option maxHeartbeats 16000000 in
/-- loop.example/g00516/spec.DrawSpendToken -/
theorem draw_spt (B : Nat) (a : Option Addr) (len cap : Nat) (zs : List Int) (w : World) (hB : B ≤ w.heap.size) (hrow : RowB B .u8 w a len cap zs) (hl : len ≤ maxLen) :
    Calls Try.prog 14 #[.slice a len cap] w fun e w' => ∃ (x s n u : Int) (v : Value) (zs : List Int), e = .returned (.tuple #[.agg #[.int .i64 x, v], .int .i64 s, .agg #[.int .i64 n, .int .i64 u]]) ∧ (Lit.int .i64 x).wf = true ∧ (1 ≤ s ∧ s ≤ 1018) ∧ (0 ≤ n ∧ n ≤ 39) ∧ (Lit.int .i64 u).wf = true ∧ Own 3 .i64 w.heap.size w' v zs ∧ zs.length ≤ 41 ∧ Below w.heap.size w w' := by
  have K := blocks2T w (.cells #[.int .i64 0, .slice none 0 0] 26) (.cells #[.int .i64 0, .int .i64 0] 28)
  have hb0 := ((Below.refl w.heap.size w).alloc (Nat.le_refl _) (.cells #[.int .i64 0, .slice none 0 0] 26)).alloc (by simp) (.cells #[.int .i64 0, .int .i64 0] 28)
  obtain ⟨W0, hW0⟩ : ∃ W, W = (w.alloc (.cells #[.int .i64 0, .slice none 0 0] 26)).alloc (.cells #[.int .i64 0, .int .i64 0] 28) := ⟨_, rfl⟩
  have HW : Hid (W0.heap.size = w.heap.size + 1 + 1) := Lib.hid (by rw [hW0, World.size_alloc, World.size_alloc])
  rw [← hW0] at K hb0
  have HR := Lib.hid (hrow.behind (hb0.mono hB))
  have HW0 := Lib.hid hW0
  have HZ1 := Lib.hid K.1
  have HZ2 := Lib.hid K.2
  have HB0 := Lib.hid hb0
  have HBs := Lib.hid (show B ≤ W0.heap.size from Nat.le_trans hB hb0.size)
  have HBw := Lib.hid hB
  clear hrow K hb0 hW0 hB
  go_enter Try.func14, Try.ntmps14
  go_wp2_with fail
  rw [← HW0.out]
  refine (new_any B a len cap zs _ HBs.out HR.out hl).mono ?_
  rintro e w1 ⟨rfl, hc, hg⟩
  obtain ⟨b, hbn⟩ : ∃ b, b = W0.heap.size := ⟨_, rfl⟩
  have HBn := Lib.hid hbn
  rw [← hbn] at hc ⊢
  have HC := Lib.hid hc
  have HG := Lib.hid (grown_none (r := some b) hg)
  have HBl0 : Hid (b < w1.heap.size) := Lib.hid hc.lt.2
  have HBl := HBl0
  clear hc hg hbn HR
  go_wp2_with fail
  refine (list17 B b _ HC.out).mono ?_
  rintro e w2 ⟨x, v, xs, rfl, hx, hO, hl, hc, hg⟩
  replace HC := Lib.hid hc
  replace HG := Lib.hid (grown_trans HG.out hg)
  clear hc hg
  have Hxw := Lib.hid hx
  have Hxsl := Lib.hid hl
  obtain ⟨av, cv, hv, _⟩ := hO.open
  subst hv
  have HO := Lib.hid (hO.mono (show w1.heap.size ≤ w1.heap.size from Nat.le_refl _))
  obtain ⟨nxs, hnl⟩ : ∃ x, x = xs.length := ⟨_, rfl⟩
  rw [← hnl] at HO ⊢
  have Hxsn := Lib.hid hnl
  clear hx hl hO hnl
  have hE := heap_alloc_new w2 (.cells #[.int .i64 x, .slice av nxs cv] 26)
  have hLG : b < w2.heap.size := HC.out.lt.2
  have hb : Below w2.heap.size w2 (w2.alloc (.cells #[.int .i64 x, .slice av nxs cv] 26)) := (Below.refl _ _).alloc (Nat.le_refl _) _
  replace HO := Lib.hid (HO.out.next hb)
  have hC := HC.out.kept (grown_of_below hb) (by simp) (fun r hr => by cases hr)
  replace HC := Lib.hid hC
  replace HG := Lib.hid (grown_trans HG.out (grown_none (grown_of_below hb)))
  clear hb hC
  obtain ⟨w3, hw3⟩ : ∃ W, W = w2.alloc (.cells #[.int .i64 x, .slice av nxs cv] 26) := ⟨_, rfl⟩
  obtain ⟨G, hG⟩ : ∃ G, G = w2.heap.size := ⟨_, rfl⟩
  rw [← hw3, ← hG] at hE
  rw [← hG] at hLG
  rw [← hw3] at HC HG HO
  have HE := Lib.hid hE
  have HL_HE := Lib.hid hLG
  have Hw3 := Lib.hid hw3
  have HAG := Lib.hid hG
  clear hE hLG hw3 hG
  go_wp2_with (rw [← Hw3.out, ← HAG.out])
  refine (below_any B b 1018 _ HC.out (by omega) (by omega)).mono ?_
  rintro e w4 ⟨y, y0, y1, rfl, hc, hg⟩
  replace HE := Lib.hid ((hg.block _ (lt_of_block HE.out) (fun h => by injection h with h; have := HL_HE.out; omega)).trans HE.out)
  replace HO := Lib.hid (HO.out.cur HBl.out hg)
  replace HC := Lib.hid hc
  replace HG := Lib.hid (grown_trans HG.out hg)
  clear hc hg
  go_wp2_with fail
  refine (below_any B b 40 _ HC.out (by omega) (by omega)).mono ?_
  rintro e w5 ⟨n, n0, n1, rfl, hc, hg⟩
  replace HE := Lib.hid ((hg.block _ (lt_of_block HE.out) (fun h => by injection h with h; have := HL_HE.out; omega)).trans HE.out)
  replace HO := Lib.hid (HO.out.cur HBl.out hg)
  replace HC := Lib.hid hc
  replace HG := Lib.hid (grown_trans HG.out hg)
  clear hc hg
  have HNw := Lib.hid (small_wf (x := n) (by omega) (by omega))
  have hq := hs_wf n
  obtain ⟨q, hqe⟩ : ∃ q, q = hgr 101 n := ⟨_, rfl⟩
  have HQw : Hid ((Lit.int .i64 q).wf = true) := Lib.hid (by rw [hqe]; exact hq)
  have HQ := Lib.hid hqe
  clear hq hqe
  go_wp2_with fail
  refine (spec_hgr (by decide) HNw.out).mono ?_
  rw [← HQ.out]
  rintro e w6 ⟨rfl, hb⟩
  replace HE := Lib.hid ((hb.block _ (lt_of_block HE.out)).trans HE.out)
  replace HO := Lib.hid (HO.out.next hb)
  have hC := HC.out.kept (grown_of_below hb) (by simp) (fun r hr => by cases hr)
  replace HC := Lib.hid hC
  replace HG := Lib.hid (grown_trans HG.out (grown_none (grown_of_below hb)))
  clear hb hC
  have hp := pwG_wf q (1 + y)
  obtain ⟨p, hpe⟩ : ∃ p, p = pwG q (1 + y) := ⟨_, rfl⟩
  rw [← hpe] at hp
  have HP := Lib.hid hpe
  have HPw := Lib.hid hp
  clear hp hpe
  go_wp2_with fail
  refine (spec_pwg HQw.out (small_wf (by omega) (by omega))).mono ?_
  rw [← HP.out]
  rintro e w7 ⟨rfl, hw⟩
  obtain rfl := hw.symm
  clear hw
  have HLE := Lib.hid (lt_of_block HE.out)
  have hE := heap_alloc_new w6 (.cells #[.int .i64 n, .int .i64 p] 28)
  have hLG : b < w6.heap.size := HC.out.lt.2
  have hb : Below w6.heap.size w6 (w6.alloc (.cells #[.int .i64 n, .int .i64 p] 28)) := (Below.refl _ _).alloc (Nat.le_refl _) _
  replace HE := Lib.hid ((hb.block _ (lt_of_block HE.out)).trans HE.out)
  replace HO := Lib.hid (HO.out.next hb)
  have hC := HC.out.kept (grown_of_below hb) (by simp) (fun r hr => by cases hr)
  replace HC := Lib.hid hC
  replace HG := Lib.hid (grown_trans HG.out (grown_none (grown_of_below hb)))
  clear hb hC
  obtain ⟨w8, hw8⟩ : ∃ W, W = w6.alloc (.cells #[.int .i64 n, .int .i64 p] 28) := ⟨_, rfl⟩
  obtain ⟨D, hD⟩ : ∃ G, G = w6.heap.size := ⟨_, rfl⟩
  rw [← hw8, ← hD] at hE
  rw [← hD] at hLG
  rw [← hw8] at HC HG HE HO
  have HD := Lib.hid hE
  have HL_HD := Lib.hid hLG
  have Hw8 := Lib.hid hw8
  have HAD := Lib.hid hD
  have HGD : Hid (G < D) := Lib.hid (by have h1 := HLE.out; have h2 := HAD.out; omega)
  clear hE hLG hw8 hD HLE
  go_wp2_with (rw [← Hw8.out, ← HAD.out])
  refine (once_any B b 4 _ HC.out (by omega) (by omega)).mono ?_
  rintro e w9 ⟨t, rfl, hc, hg⟩
  replace HE := Lib.hid ((hg.block _ (lt_of_block HE.out) (fun h => by injection h with h; have := HL_HE.out; omega)).trans HE.out)
  replace HD := Lib.hid ((hg.block _ (lt_of_block HD.out) (fun h => by injection h with h; have := HL_HD.out; omega)).trans HD.out)
  replace HO := Lib.hid (HO.out.cur HBl.out hg)
  replace HC := Lib.hid hc
  replace HG := Lib.hid (grown_trans HG.out hg)
  clear hc hg
  cases t with
  | false =>
    go_wp2_with fail
    refine region_till (fun u => u.cell? ⟨G, 0, none⟩ = some (.int .i64 x) ∧ u.cell? ⟨G, 1, none⟩ = some (.slice av nxs cv) ∧ u.cell? ⟨D, 0, none⟩ = some (.int .i64 n) ∧ u.cell? ⟨D, 1, none⟩ = some (.int .i64 p)) 5 (by kernel_rfl) ?_
    obtain ⟨wd, hwd⟩ : ∃ x, x = w9.drew := ⟨_, rfl⟩
    have hb : Below w9.heap.size w9 wd := by rw [hwd]; exact (Below.refl _ _).drew
    rw [← hwd]
    clear hwd
    replace HE := Lib.hid ((hb.block _ (lt_of_block HE.out)).trans HE.out)
    replace HD := Lib.hid ((hb.block _ (lt_of_block HD.out)).trans HD.out)
    replace HO := Lib.hid (HO.out.next hb)
    have hC := HC.out.kept (grown_of_below hb) (by simp) (fun r hr => by cases hr)
    replace HC := Lib.hid hC
    replace HG := Lib.hid (grown_trans HG.out (grown_none (grown_of_below hb)))
    clear hb hC
    have s0 : wd.cell? ⟨G, 0, none⟩ = some (.int .i64 x) ∧ wd.cell? ⟨G, 1, none⟩ = some (.slice av nxs cv) ∧ wd.cell? ⟨D, 0, none⟩ = some (.int .i64 n) ∧ wd.cell? ⟨D, 1, none⟩ = some (.int .i64 p) := ⟨(scs HE.out).1, (scs HE.out).2.1, (scs HD.out).1, (scs HD.out).2.1⟩
    apply Till.take (i := 0) [0, 3, 4, 5]
    · simp only [List.getElem?_toArray, List.getElem?_cons_zero]
      rfl
    · kernel_rfl
    · kernel_rfl
    · kernel_rfl
    · kernel_rfl
    · exact fun _ _ _ h => h
    · first
        | exact Or.inr ⟨by rfl, rfl⟩
        | (refine Or.inl ⟨by rfl, fun wq hwq => ?_⟩
           dsimp only at hwq
           go_simp
           first
             | done
             | rfl)
    · exact s0
    simp only [Act.put, List.setIfInBounds_toArray, List.set_cons_zero, List.set_cons_succ]
    apply Till.take (i := 1) [1, 4, 5]
    · simp only [List.getElem?_toArray, List.getElem?_cons_succ, List.getElem?_cons_zero]
      rfl
    · kernel_rfl
    · kernel_rfl
    · kernel_rfl
    · kernel_rfl
    · exact fun _ _ _ h => h
    · first
        | exact Or.inr ⟨by rfl, rfl⟩
        | (refine Or.inl ⟨by rfl, fun wq hwq => ?_⟩
           dsimp only at hwq
           go_simp
           first
             | done
             | rfl)
    · exact s0
    simp only [Act.put, List.setIfInBounds_toArray, List.set_cons_zero, List.set_cons_succ]
    apply Till.take (i := 2) [2, 5]
    · simp only [List.getElem?_toArray, List.getElem?_cons_succ, List.getElem?_cons_zero]
      rfl
    · kernel_rfl
    · kernel_rfl
    · kernel_rfl
    · kernel_rfl
    · exact fun _ _ _ h => h
    · first
        | exact Or.inr ⟨by rfl, rfl⟩
        | (refine Or.inl ⟨by rfl, fun wq hwq => ?_⟩
           dsimp only at hwq
           go_simp
           first
             | done
             | rfl)
    · exact s0
    simp only [Act.put, List.setIfInBounds_toArray, List.set_cons_zero, List.set_cons_succ]
    have hk1 := (HG.out.block _ (lt_of_block HZ1.out) (fun h => by injection h with h; have := HBn.out; have := HW.out; omega)).trans HZ1.out
    have hk2 := (HG.out.block _ (lt_of_block HZ2.out) (fun h => by injection h with h; have := HBn.out; have := HW.out; omega)).trans HZ2.out
    obtain ⟨p0, p1, pf0, pf1⟩ := scs hk1
    obtain ⟨k9, g9⟩ := sst hk1 (.int .i64 x) (.slice av nxs cv)
    have HB9 := Lib.hid (((below_of_grown HG.out (by have := HBn.out; have := HW.out; omega) (by have := HW.out; omega) : Below w.heap.size W0 wd)).grown g9 (by have := HW.out; have := HG.out.size; omega) (fun k hk => by injection hk with hk; omega))
    have hk3 := (g9.block _ (lt_of_block hk2) (fun h => by injection h with h; omega)).trans hk2
    obtain ⟨p2, p3, pf2, pf3⟩ := scs hk3

    have HO9_0 := Lib.hid (HO.out.kept g9 (Or.inr (fun hh => by have := (HO.out.lt _ hh).1; have := HBn.out; have := HW.out; have := HBl0.out; omega)))
    have HX9_0 := Lib.hid ((g9.block _ (lt_of_block HE.out) (fun h => by injection h with h; have := HL_HE.out; have := HBn.out; have := HW.out; omega)).trans HE.out)
    have HX9_1 := Lib.hid ((g9.block _ (lt_of_block HD.out) (fun h => by injection h with h; have := HL_HD.out; have := HBn.out; have := HW.out; omega)).trans HD.out)
    have s1 : ((wd.setCell ⟨w.heap.size, 0, none⟩ (.int .i64 x)).setCell ⟨w.heap.size, 1, none⟩ (.slice av nxs cv)).cell? ⟨G, 0, none⟩ = some (.int .i64 x) ∧ ((wd.setCell ⟨w.heap.size, 0, none⟩ (.int .i64 x)).setCell ⟨w.heap.size, 1, none⟩ (.slice av nxs cv)).cell? ⟨G, 1, none⟩ = some (.slice av nxs cv) ∧ ((wd.setCell ⟨w.heap.size, 0, none⟩ (.int .i64 x)).setCell ⟨w.heap.size, 1, none⟩ (.slice av nxs cv)).cell? ⟨D, 0, none⟩ = some (.int .i64 n) ∧ ((wd.setCell ⟨w.heap.size, 0, none⟩ (.int .i64 x)).setCell ⟨w.heap.size, 1, none⟩ (.slice av nxs cv)).cell? ⟨D, 1, none⟩ = some (.int .i64 p) := ⟨(scs HX9_0.out).1, (scs HX9_0.out).2.1, (scs HX9_1.out).1, (scs HX9_1.out).2.1⟩
    have HK9 := Lib.hid k9
    clear g9 k9 hk1 hk2
    apply Till.one (i := 3)
    · kernel_rfl
    · simp only [List.getElem?_toArray, List.getElem?_cons_succ, List.getElem?_cons_zero]
      rfl
    intro K hK
    go_simp
    skip
    refine hK.out _ _ (Or.inr s1) ?_
    clear hK K
    try simp only [Act.put, List.setIfInBounds_toArray, List.set_cons_zero, List.set_cons_succ]
    apply Till.one (i := 4)
    · kernel_rfl
    · simp only [List.getElem?_toArray, List.getElem?_cons_succ, List.getElem?_cons_zero]
      rfl
    intro K hK
    go_simp
    skip
    refine hK.out _ _ (Or.inr s1) ?_
    clear hK K
    try simp only [Act.put, List.setIfInBounds_toArray, List.set_cons_zero, List.set_cons_succ]
    obtain ⟨wz, hwz⟩ : ∃ zz, zz = ((wd.setCell ⟨w.heap.size, 0, none⟩ (.int .i64 x)).setCell ⟨w.heap.size, 1, none⟩ (.slice av nxs cv)) := ⟨_, rfl⟩
    rw [← hwz] at hk3 p2 p3 pf2 pf3 s1 HB9 HK9 HO9_0 ⊢
    clear hwz s0 p0 p1 pf0 pf1
    obtain ⟨k8, g8⟩ := sst hk3 (.int .i64 n) (.int .i64 p)
    have HB8 := Lib.hid (HB9.out.grown g8 (by have := HB9.out.size; have := HW.out; omega) (fun k hk => by injection hk with hk; omega))
    have hk7 := (g8.block _ (lt_of_block HK9.out) (fun h => by injection h with h; omega)).trans HK9.out
    obtain ⟨r0, r1, _⟩ := scs hk7
    obtain ⟨r2, r3, _⟩ := scs k8
    have HO8_0 := Lib.hid ((HO9_0.out.kept g8 (Or.inr (fun hh => by have := (HO9_0.out.lt _ hh).1; have := HBn.out; have := HW.out; have := HBl0.out; omega))).mono (show w.heap.size ≤ w1.heap.size by have := HBl0.out; have := HBn.out; have := HW.out; omega))
    clear k8 g8 hk3 hk7
    apply Till.one (i := 5)
    · kernel_rfl
    · simp only [List.getElem?_toArray, List.getElem?_cons_succ, List.getElem?_cons_zero]
      rfl
    intro K hK
    go_simp
    skip
    refine hK.out _ _ (Or.inl (by rfl)) ?_
    clear hK K
    try simp only [Act.put, List.setIfInBounds_toArray, List.set_cons_zero, List.set_cons_succ]
    refine Till.done (by kernel_rfl) ?_ _
    go_wp2_with fail
    exact bodyPost_ret (v := .tuple #[.agg #[.int .i64 x, .slice av nxs cv], .int .i64 (1 + y), .agg #[.int .i64 n, .int .i64 p]]) (by simp [results, Try.results14, go_sem, r0, r1, r2, r3]) rfl ⟨x, 1 + y, n, p, _, xs, rfl, Hxw.out, ⟨by omega, by omega⟩, ⟨n0, by omega⟩, HPw.out, HO8_0.out, Hxsl.out, HB0.out.trans HB8.out⟩
  | true =>
    go_wp2_with fail
    refine (any15 B b _ HC.out).mono ?_
    rintro e wa ⟨z, z0, z1, rfl, hc, hg⟩
    replace HE := Lib.hid ((hg.block _ (lt_of_block HE.out) (fun h => by injection h with h; have := HL_HE.out; omega)).trans HE.out)
    replace HD := Lib.hid ((hg.block _ (lt_of_block HD.out) (fun h => by injection h with h; have := HL_HD.out; omega)).trans HD.out)
    replace HO := Lib.hid (HO.out.cur HBl.out hg)
    replace HC := Lib.hid hc
    replace HG := Lib.hid (grown_trans HG.out hg)
    clear hc hg
    obtain ⟨k0, k1, kf0, kf1⟩ := scs HD.out
    have hk := blk_set HD.out 1 (.int .i64 z)
    have hg := grown_set wa D 1 (.int .i64 z)
    have hE := (hg.block _ (lt_of_block HE.out) (fun h => by injection h with h; have := HGD.out; omega)).trans HE.out
    have hO := HO.out.kept hg (Or.inr (fun hh => by have := (HO.out.lt _ hh).2; exact own_ne_box (by decide) HO.out HD.out _ hh rfl))
    have hC := HC.out.kept hg (fun h => by injection h with h; have := HL_HD.out; omega) (fun r hr => by injection hr with hr; have := HL_HD.out; have := HBn.out; have := HBs.out; omega)
    have hG := grown_own HG.out hg (fun r hr => by injection hr with hr; have := HL_HD.out; have := HBn.out; omega)
    have hD : (wa.setCell ⟨D, 1, none⟩ (.int .i64 z)).heap[D]? = some (.cells #[.int .i64 n, .int .i64 z] 28 (0, 0)) := hk
    obtain ⟨wb, hwb⟩ : ∃ x, x = wa.setCell ⟨D, 1, none⟩ (.int .i64 z) := ⟨_, rfl⟩
    rw [← hwb] at hE hO hC hG hD
    replace HE := Lib.hid hE
    replace HO := Lib.hid hO
    replace HC := Lib.hid hC
    replace HG := Lib.hid hG
    replace HD := Lib.hid hD
    have HWb := Lib.hid hwb
    clear hk hg hE hO hC hG hD hwb
    go_wp2_with fail
    rw [← HWb.out]
    clear k0 k1 kf0 kf1
    refine region_till (fun u => u.cell? ⟨G, 0, none⟩ = some (.int .i64 x) ∧ u.cell? ⟨G, 1, none⟩ = some (.slice av nxs cv) ∧ u.cell? ⟨D, 0, none⟩ = some (.int .i64 n) ∧ u.cell? ⟨D, 1, none⟩ = some (.int .i64 z)) 5 (by kernel_rfl) ?_
    obtain ⟨wd, hwd⟩ : ∃ x, x = wb.drew := ⟨_, rfl⟩
    have hb : Below wb.heap.size wb wd := by rw [hwd]; exact (Below.refl _ _).drew
    rw [← hwd]
    clear hwd
    replace HE := Lib.hid ((hb.block _ (lt_of_block HE.out)).trans HE.out)
    replace HD := Lib.hid ((hb.block _ (lt_of_block HD.out)).trans HD.out)
    replace HO := Lib.hid (HO.out.next hb)
    have hC := HC.out.kept (grown_of_below hb) (by simp) (fun r hr => by cases hr)
    replace HC := Lib.hid hC
    replace HG := Lib.hid (grown_trans HG.out (grown_none (grown_of_below hb)))
    clear hb hC
    have s0 : wd.cell? ⟨G, 0, none⟩ = some (.int .i64 x) ∧ wd.cell? ⟨G, 1, none⟩ = some (.slice av nxs cv) ∧ wd.cell? ⟨D, 0, none⟩ = some (.int .i64 n) ∧ wd.cell? ⟨D, 1, none⟩ = some (.int .i64 z) := ⟨(scs HE.out).1, (scs HE.out).2.1, (scs HD.out).1, (scs HD.out).2.1⟩
    apply Till.take (i := 0) [0, 3, 4, 5]
    · simp only [List.getElem?_toArray, List.getElem?_cons_zero]
      rfl
    · kernel_rfl
    · kernel_rfl
    · kernel_rfl
    · kernel_rfl
    · exact fun _ _ _ h => h
    · first
        | exact Or.inr ⟨by rfl, rfl⟩
        | (refine Or.inl ⟨by rfl, fun wq hwq => ?_⟩
           dsimp only at hwq
           go_simp
           first
             | done
             | rfl)
    · exact s0
    simp only [Act.put, List.setIfInBounds_toArray, List.set_cons_zero, List.set_cons_succ]
    apply Till.take (i := 1) [1, 4, 5]
    · simp only [List.getElem?_toArray, List.getElem?_cons_succ, List.getElem?_cons_zero]
      rfl
    · kernel_rfl
    · kernel_rfl
    · kernel_rfl
    · kernel_rfl
    · exact fun _ _ _ h => h
    · first
        | exact Or.inr ⟨by rfl, rfl⟩
        | (refine Or.inl ⟨by rfl, fun wq hwq => ?_⟩
           dsimp only at hwq
           go_simp
           first
             | done
             | rfl)
    · exact s0
    simp only [Act.put, List.setIfInBounds_toArray, List.set_cons_zero, List.set_cons_succ]
    apply Till.take (i := 2) [2, 5]
    · simp only [List.getElem?_toArray, List.getElem?_cons_succ, List.getElem?_cons_zero]
      rfl
    · kernel_rfl
    · kernel_rfl
    · kernel_rfl
    · kernel_rfl
    · exact fun _ _ _ h => h
    · first
        | exact Or.inr ⟨by rfl, rfl⟩
        | (refine Or.inl ⟨by rfl, fun wq hwq => ?_⟩
           dsimp only at hwq
           go_simp
           first
             | done
             | rfl)
    · exact s0
    simp only [Act.put, List.setIfInBounds_toArray, List.set_cons_zero, List.set_cons_succ]
    have hk1 := (HG.out.block _ (lt_of_block HZ1.out) (fun h => by injection h with h; have := HBn.out; have := HW.out; omega)).trans HZ1.out
    have hk2 := (HG.out.block _ (lt_of_block HZ2.out) (fun h => by injection h with h; have := HBn.out; have := HW.out; omega)).trans HZ2.out
    obtain ⟨p0, p1, pf0, pf1⟩ := scs hk1
    obtain ⟨k9, g9⟩ := sst hk1 (.int .i64 x) (.slice av nxs cv)
    have HB9 := Lib.hid (((below_of_grown HG.out (by have := HBn.out; have := HW.out; omega) (by have := HW.out; omega) : Below w.heap.size W0 wd)).grown g9 (by have := HW.out; have := HG.out.size; omega) (fun k hk => by injection hk with hk; omega))
    have hk3 := (g9.block _ (lt_of_block hk2) (fun h => by injection h with h; omega)).trans hk2
    obtain ⟨p2, p3, pf2, pf3⟩ := scs hk3

    have HO9_0 := Lib.hid (HO.out.kept g9 (Or.inr (fun hh => by have := (HO.out.lt _ hh).1; have := HBn.out; have := HW.out; have := HBl0.out; omega)))
    have HX9_0 := Lib.hid ((g9.block _ (lt_of_block HE.out) (fun h => by injection h with h; have := HL_HE.out; have := HBn.out; have := HW.out; omega)).trans HE.out)
    have HX9_1 := Lib.hid ((g9.block _ (lt_of_block HD.out) (fun h => by injection h with h; have := HL_HD.out; have := HBn.out; have := HW.out; omega)).trans HD.out)
    have s1 : ((wd.setCell ⟨w.heap.size, 0, none⟩ (.int .i64 x)).setCell ⟨w.heap.size, 1, none⟩ (.slice av nxs cv)).cell? ⟨G, 0, none⟩ = some (.int .i64 x) ∧ ((wd.setCell ⟨w.heap.size, 0, none⟩ (.int .i64 x)).setCell ⟨w.heap.size, 1, none⟩ (.slice av nxs cv)).cell? ⟨G, 1, none⟩ = some (.slice av nxs cv) ∧ ((wd.setCell ⟨w.heap.size, 0, none⟩ (.int .i64 x)).setCell ⟨w.heap.size, 1, none⟩ (.slice av nxs cv)).cell? ⟨D, 0, none⟩ = some (.int .i64 n) ∧ ((wd.setCell ⟨w.heap.size, 0, none⟩ (.int .i64 x)).setCell ⟨w.heap.size, 1, none⟩ (.slice av nxs cv)).cell? ⟨D, 1, none⟩ = some (.int .i64 z) := ⟨(scs HX9_0.out).1, (scs HX9_0.out).2.1, (scs HX9_1.out).1, (scs HX9_1.out).2.1⟩
    have HK9 := Lib.hid k9
    clear g9 k9 hk1 hk2
    apply Till.one (i := 3)
    · kernel_rfl
    · simp only [List.getElem?_toArray, List.getElem?_cons_succ, List.getElem?_cons_zero]
      rfl
    intro K hK
    go_simp
    skip
    refine hK.out _ _ (Or.inr s1) ?_
    clear hK K
    try simp only [Act.put, List.setIfInBounds_toArray, List.set_cons_zero, List.set_cons_succ]
    apply Till.one (i := 4)
    · kernel_rfl
    · simp only [List.getElem?_toArray, List.getElem?_cons_succ, List.getElem?_cons_zero]
      rfl
    intro K hK
    go_simp
    skip
    refine hK.out _ _ (Or.inr s1) ?_
    clear hK K
    try simp only [Act.put, List.setIfInBounds_toArray, List.set_cons_zero, List.set_cons_succ]
    obtain ⟨wz, hwz⟩ : ∃ zz, zz = ((wd.setCell ⟨w.heap.size, 0, none⟩ (.int .i64 x)).setCell ⟨w.heap.size, 1, none⟩ (.slice av nxs cv)) := ⟨_, rfl⟩
    rw [← hwz] at hk3 p2 p3 pf2 pf3 s1 HB9 HK9 HO9_0 ⊢
    clear hwz s0 p0 p1 pf0 pf1
    obtain ⟨k8, g8⟩ := sst hk3 (.int .i64 n) (.int .i64 z)
    have HB8 := Lib.hid (HB9.out.grown g8 (by have := HB9.out.size; have := HW.out; omega) (fun k hk => by injection hk with hk; omega))
    have hk7 := (g8.block _ (lt_of_block HK9.out) (fun h => by injection h with h; omega)).trans HK9.out
    obtain ⟨r0, r1, _⟩ := scs hk7
    obtain ⟨r2, r3, _⟩ := scs k8
    have HO8_0 := Lib.hid ((HO9_0.out.kept g8 (Or.inr (fun hh => by have := (HO9_0.out.lt _ hh).1; have := HBn.out; have := HW.out; have := HBl0.out; omega))).mono (show w.heap.size ≤ w1.heap.size by have := HBl0.out; have := HBn.out; have := HW.out; omega))
    clear k8 g8 hk3 hk7
    apply Till.one (i := 5)
    · kernel_rfl
    · simp only [List.getElem?_toArray, List.getElem?_cons_succ, List.getElem?_cons_zero]
      rfl
    intro K hK
    go_simp
    skip
    refine hK.out _ _ (Or.inl (by rfl)) ?_
    clear hK K
    try simp only [Act.put, List.setIfInBounds_toArray, List.set_cons_zero, List.set_cons_succ]
    refine Till.done (by kernel_rfl) ?_ _
    go_wp2_with fail
    exact bodyPost_ret (v := .tuple #[.agg #[.int .i64 x, .slice av nxs cv], .int .i64 (1 + y), .agg #[.int .i64 n, .int .i64 z]]) (by simp [results, Try.results14, go_sem, r0, r1, r2, r3]) rfl ⟨x, 1 + y, n, z, _, xs, rfl, Hxw.out, ⟨by omega, by omega⟩, ⟨n0, by omega⟩, (small_wf (by omega) (by omega)), HO8_0.out, Hxsl.out, HB0.out.trans HB8.out⟩

set_option maxHeartbeats 16000000 in
/-- loop.example/g00516/spec.DrawMergeSpent -/
theorem draw_mrg (B : Nat) (a : Option Addr) (len cap : Nat) (zs : List Int) (w : World) (hB : B ≤ w.heap.size) (hrow : RowB B .u8 w a len cap zs) (hl : len ≤ maxLen) :
    Calls Try.prog 24 #[.slice a len cap] w fun e w' => ∃ (x y : Int) (u v : Value) (xs ys : List Int), e = .returned (.tuple #[.agg #[.int .i64 x, u], .agg #[.int .i64 y, v]]) ∧ (Lit.int .i64 x).wf = true ∧ (Lit.int .i64 y).wf = true ∧ Own 3 .i64 w.heap.size w' u xs ∧ Own 3 .i64 w.heap.size w' v ys ∧ xs.length ≤ 41 ∧ ys.length ≤ 41 ∧ Below w.heap.size w w' := by
  have K := blocks2T w (.cells #[.int .i64 0, .slice none 0 0] 26) (.cells #[.int .i64 0, .slice none 0 0] 26)
  have hb0 := ((Below.refl w.heap.size w).alloc (Nat.le_refl _) (.cells #[.int .i64 0, .slice none 0 0] 26)).alloc (by simp) (.cells #[.int .i64 0, .slice none 0 0] 26)
  obtain ⟨W0, hW0⟩ : ∃ W, W = (w.alloc (.cells #[.int .i64 0, .slice none 0 0] 26)).alloc (.cells #[.int .i64 0, .slice none 0 0] 26) := ⟨_, rfl⟩
  have HW : Hid (W0.heap.size = w.heap.size + 1 + 1) := Lib.hid (by rw [hW0, World.size_alloc, World.size_alloc])
  rw [← hW0] at K hb0
  have HR := Lib.hid (hrow.behind (hb0.mono hB))
  have HW0 := Lib.hid hW0
  have HZ1 := Lib.hid K.1
  have HZ2 := Lib.hid K.2
  have HB0 := Lib.hid hb0
  have HBs := Lib.hid (show B ≤ W0.heap.size from Nat.le_trans hB hb0.size)
  have HBw := Lib.hid hB
  clear hrow K hb0 hW0 hB
  go_enter Try.func24, Try.ntmps24
  go_wp2_with fail
  rw [← HW0.out]
  refine (new_any B a len cap zs _ HBs.out HR.out hl).mono ?_
  rintro e w1 ⟨rfl, hc, hg⟩
  obtain ⟨b, hbn⟩ : ∃ b, b = W0.heap.size := ⟨_, rfl⟩
  have HBn := Lib.hid hbn
  rw [← hbn] at hc ⊢
  have HC := Lib.hid hc
  have HG := Lib.hid (grown_none (r := some b) hg)
  have HBl0 : Hid (b < w1.heap.size) := Lib.hid hc.lt.2
  have HBl := HBl0
  clear hc hg hbn HR
  go_wp2_with fail
  refine (list17 B b _ HC.out).mono ?_
  rintro e w2 ⟨x, u, xs, rfl, hx, hO, hl, hc, hg⟩
  replace HC := Lib.hid hc
  replace HG := Lib.hid (grown_trans HG.out hg)
  clear hc hg
  have Hxw := Lib.hid hx
  have Hxsl := Lib.hid hl
  obtain ⟨au, cu, hv, _⟩ := hO.open
  subst hv
  have HO := Lib.hid (hO.mono (show w1.heap.size ≤ w1.heap.size from Nat.le_refl _))
  obtain ⟨nxs, hnl⟩ : ∃ x, x = xs.length := ⟨_, rfl⟩
  rw [← hnl] at HO ⊢
  have Hxsn := Lib.hid hnl
  clear hx hl hO hnl
  have hE := heap_alloc_new w2 (.cells #[.int .i64 x, .slice au nxs cu] 26)
  have hLG : b < w2.heap.size := HC.out.lt.2
  have hb : Below w2.heap.size w2 (w2.alloc (.cells #[.int .i64 x, .slice au nxs cu] 26)) := (Below.refl _ _).alloc (Nat.le_refl _) _
  replace HO := Lib.hid (HO.out.next hb)
  have hC := HC.out.kept (grown_of_below hb) (by simp) (fun r hr => by cases hr)
  replace HC := Lib.hid hC
  replace HG := Lib.hid (grown_trans HG.out (grown_none (grown_of_below hb)))
  clear hb hC
  obtain ⟨w3, hw3⟩ : ∃ W, W = w2.alloc (.cells #[.int .i64 x, .slice au nxs cu] 26) := ⟨_, rfl⟩
  obtain ⟨G, hG⟩ : ∃ G, G = w2.heap.size := ⟨_, rfl⟩
  rw [← hw3, ← hG] at hE
  rw [← hG] at hLG
  rw [← hw3] at HC HG HO
  have HE := Lib.hid hE
  have HL_HE := Lib.hid hLG
  have Hw3 := Lib.hid hw3
  have HAG := Lib.hid hG
  clear hE hLG hw3 hG
  have HSz : Hid (w1.heap.size ≤ w3.heap.size) := Lib.hid HO.out.2.1
  go_wp2_with (rw [← Hw3.out, ← HAG.out])
  refine (list17 B b _ HC.out).mono ?_
  rintro e w4 ⟨y, v, ys, rfl, hx, hO, hl, hc, hg⟩
  replace HE := Lib.hid ((hg.block _ (lt_of_block HE.out) (fun h => by injection h with h; have := HL_HE.out; omega)).trans HE.out)
  replace HO := Lib.hid (HO.out.cur HBl.out hg)
  replace HC := Lib.hid hc
  replace HG := Lib.hid (grown_trans HG.out hg)
  clear hc hg
  have Hyw := Lib.hid hx
  have Hysl := Lib.hid hl
  obtain ⟨av, cv, hv, _⟩ := hO.open
  subst hv
  have HQ := Lib.hid (hO.mono (show w1.heap.size ≤ w3.heap.size from HSz.out))
  obtain ⟨nys, hnl⟩ : ∃ x, x = ys.length := ⟨_, rfl⟩
  rw [← hnl] at HQ ⊢
  have Hysn := Lib.hid hnl
  clear hx hl hO hnl
  have HLE := Lib.hid (lt_of_block HE.out)
  have hE := heap_alloc_new w4 (.cells #[.int .i64 y, .slice av nys cv] 26)
  have hLG : b < w4.heap.size := HC.out.lt.2
  have hb : Below w4.heap.size w4 (w4.alloc (.cells #[.int .i64 y, .slice av nys cv] 26)) := (Below.refl _ _).alloc (Nat.le_refl _) _
  replace HE := Lib.hid ((hb.block _ (lt_of_block HE.out)).trans HE.out)
  replace HO := Lib.hid (HO.out.next hb)
  replace HQ := Lib.hid (HQ.out.next hb)
  have hC := HC.out.kept (grown_of_below hb) (by simp) (fun r hr => by cases hr)
  replace HC := Lib.hid hC
  replace HG := Lib.hid (grown_trans HG.out (grown_none (grown_of_below hb)))
  clear hb hC
  obtain ⟨w5, hw5⟩ : ∃ W, W = w4.alloc (.cells #[.int .i64 y, .slice av nys cv] 26) := ⟨_, rfl⟩
  obtain ⟨D, hD⟩ : ∃ G, G = w4.heap.size := ⟨_, rfl⟩
  rw [← hw5, ← hD] at hE
  rw [← hD] at hLG
  rw [← hw5] at HC HG HE HO HQ
  have HD := Lib.hid hE
  have HL_HD := Lib.hid hLG
  have Hw5 := Lib.hid hw5
  have HAD := Lib.hid hD
  have HGD : Hid (G < D) := Lib.hid (by have h1 := HLE.out; have h2 := HAD.out; omega)
  clear hE hLG hw5 hD HLE
  go_wp2_with (rw [← Hw5.out, ← HAD.out])
  refine (once_any B b 2 _ HC.out (by omega) (by omega)).mono ?_
  rintro e w6 ⟨t, rfl, hc, hg⟩
  replace HE := Lib.hid ((hg.block _ (lt_of_block HE.out) (fun h => by injection h with h; have := HL_HE.out; omega)).trans HE.out)
  replace HD := Lib.hid ((hg.block _ (lt_of_block HD.out) (fun h => by injection h with h; have := HL_HD.out; omega)).trans HD.out)
  replace HO := Lib.hid (HO.out.cur HBl.out hg)
  replace HQ := Lib.hid (HQ.out.cur HBl.out hg)
  replace HC := Lib.hid hc
  replace HG := Lib.hid (grown_trans HG.out hg)
  clear hc hg
  obtain ⟨k0, k1, _⟩ := scs HE.out
  obtain ⟨k2, k3, kf2, kf3⟩ := scs HD.out
  cases t with
  | false =>
    go_wp2_with fail
    clear k0 k1 k2 k3 kf2 kf3
    refine region_till (fun u => u.cell? ⟨G, 0, none⟩ = some (.int .i64 x) ∧ u.cell? ⟨G, 1, none⟩ = some (.slice au nxs cu) ∧ u.cell? ⟨D, 0, none⟩ = some (.int .i64 y) ∧ u.cell? ⟨D, 1, none⟩ = some (.slice av nys cv)) 3 (by kernel_rfl) ?_
    obtain ⟨wd, hwd⟩ : ∃ x, x = w6.drew := ⟨_, rfl⟩
    have hb : Below w6.heap.size w6 wd := by rw [hwd]; exact (Below.refl _ _).drew
    rw [← hwd]
    clear hwd
    replace HE := Lib.hid ((hb.block _ (lt_of_block HE.out)).trans HE.out)
    replace HD := Lib.hid ((hb.block _ (lt_of_block HD.out)).trans HD.out)
    replace HO := Lib.hid (HO.out.next hb)
    replace HQ := Lib.hid (HQ.out.next hb)
    have hC := HC.out.kept (grown_of_below hb) (by simp) (fun r hr => by cases hr)
    replace HC := Lib.hid hC
    replace HG := Lib.hid (grown_trans HG.out (grown_none (grown_of_below hb)))
    clear hb hC
    have s0 : wd.cell? ⟨G, 0, none⟩ = some (.int .i64 x) ∧ wd.cell? ⟨G, 1, none⟩ = some (.slice au nxs cu) ∧ wd.cell? ⟨D, 0, none⟩ = some (.int .i64 y) ∧ wd.cell? ⟨D, 1, none⟩ = some (.slice av nys cv) := ⟨(scs HE.out).1, (scs HE.out).2.1, (scs HD.out).1, (scs HD.out).2.1⟩
    apply Till.take (i := 0) [0, 2, 3]
    · simp only [List.getElem?_toArray, List.getElem?_cons_zero]
      rfl
    · kernel_rfl
    · kernel_rfl
    · kernel_rfl
    · kernel_rfl
    · exact fun _ _ _ h => h
    · first
        | exact Or.inr ⟨by rfl, rfl⟩
        | (refine Or.inl ⟨by rfl, fun wq hwq => ?_⟩
           dsimp only at hwq
           go_simp
           first
             | done
             | rfl)
    · exact s0
    simp only [Act.put, List.setIfInBounds_toArray, List.set_cons_zero, List.set_cons_succ]
    apply Till.take (i := 1) [1, 3]
    · simp only [List.getElem?_toArray, List.getElem?_cons_succ, List.getElem?_cons_zero]
      rfl
    · kernel_rfl
    · kernel_rfl
    · kernel_rfl
    · kernel_rfl
    · exact fun _ _ _ h => h
    · first
        | exact Or.inr ⟨by rfl, rfl⟩
        | (refine Or.inl ⟨by rfl, fun wq hwq => ?_⟩
           dsimp only at hwq
           go_simp
           first
             | done
             | rfl)
    · exact s0
    simp only [Act.put, List.setIfInBounds_toArray, List.set_cons_zero, List.set_cons_succ]
    have hk1 := (HG.out.block _ (lt_of_block HZ1.out) (fun h => by injection h with h; have := HBn.out; have := HW.out; omega)).trans HZ1.out
    have hk2 := (HG.out.block _ (lt_of_block HZ2.out) (fun h => by injection h with h; have := HBn.out; have := HW.out; omega)).trans HZ2.out
    obtain ⟨p0, p1, pf0, pf1⟩ := scs hk1
    obtain ⟨k9, g9⟩ := sst hk1 (.int .i64 x) (.slice au nxs cu)
    have HB9 := Lib.hid (((below_of_grown HG.out (by have := HBn.out; have := HW.out; omega) (by have := HW.out; omega) : Below w.heap.size W0 wd)).grown g9 (by have := HW.out; have := HG.out.size; omega) (fun k hk => by injection hk with hk; omega))
    have hk3 := (g9.block _ (lt_of_block hk2) (fun h => by injection h with h; omega)).trans hk2
    obtain ⟨p2, p3, pf2, pf3⟩ := scs hk3

    have HO9_0 := Lib.hid (HO.out.kept g9 (Or.inr (fun hh => by have := (HO.out.lt _ hh).1; have := HBn.out; have := HW.out; have := HBl0.out; omega)))
    have HO9_1 := Lib.hid (HQ.out.kept g9 (Or.inr (fun hh => by have := (HQ.out.lt _ hh).1; have := HBn.out; have := HW.out; have := HBl0.out; omega)))
    have HX9_0 := Lib.hid ((g9.block _ (lt_of_block HE.out) (fun h => by injection h with h; have := HL_HE.out; have := HBn.out; have := HW.out; omega)).trans HE.out)
    have HX9_1 := Lib.hid ((g9.block _ (lt_of_block HD.out) (fun h => by injection h with h; have := HL_HD.out; have := HBn.out; have := HW.out; omega)).trans HD.out)
    have s1 : ((wd.setCell ⟨w.heap.size, 0, none⟩ (.int .i64 x)).setCell ⟨w.heap.size, 1, none⟩ (.slice au nxs cu)).cell? ⟨G, 0, none⟩ = some (.int .i64 x) ∧ ((wd.setCell ⟨w.heap.size, 0, none⟩ (.int .i64 x)).setCell ⟨w.heap.size, 1, none⟩ (.slice au nxs cu)).cell? ⟨G, 1, none⟩ = some (.slice au nxs cu) ∧ ((wd.setCell ⟨w.heap.size, 0, none⟩ (.int .i64 x)).setCell ⟨w.heap.size, 1, none⟩ (.slice au nxs cu)).cell? ⟨D, 0, none⟩ = some (.int .i64 y) ∧ ((wd.setCell ⟨w.heap.size, 0, none⟩ (.int .i64 x)).setCell ⟨w.heap.size, 1, none⟩ (.slice au nxs cu)).cell? ⟨D, 1, none⟩ = some (.slice av nys cv) := ⟨(scs HX9_0.out).1, (scs HX9_0.out).2.1, (scs HX9_1.out).1, (scs HX9_1.out).2.1⟩
    have HK9 := Lib.hid k9
    clear g9 k9 hk1 hk2
    apply Till.one (i := 2)
    · kernel_rfl
    · simp only [List.getElem?_toArray, List.getElem?_cons_succ, List.getElem?_cons_zero]
      rfl
    intro K hK
    go_simp
    skip
    refine hK.out _ _ (Or.inr s1) ?_
    clear hK K
    try simp only [Act.put, List.setIfInBounds_toArray, List.set_cons_zero, List.set_cons_succ]
    obtain ⟨wz, hwz⟩ : ∃ zz, zz = ((wd.setCell ⟨w.heap.size, 0, none⟩ (.int .i64 x)).setCell ⟨w.heap.size, 1, none⟩ (.slice au nxs cu)) := ⟨_, rfl⟩
    rw [← hwz] at hk3 p2 p3 pf2 pf3 s1 HB9 HK9 HO9_0 HO9_1 ⊢
    clear hwz s0 p0 p1 pf0 pf1
    obtain ⟨k8, g8⟩ := sst hk3 (.int .i64 y) (.slice av nys cv)
    have HB8 := Lib.hid (HB9.out.grown g8 (by have := HB9.out.size; have := HW.out; omega) (fun k hk => by injection hk with hk; omega))
    have hk7 := (g8.block _ (lt_of_block HK9.out) (fun h => by injection h with h; omega)).trans HK9.out
    obtain ⟨r0, r1, _⟩ := scs hk7
    obtain ⟨r2, r3, _⟩ := scs k8
    have HO8_0 := Lib.hid ((HO9_0.out.kept g8 (Or.inr (fun hh => by have := (HO9_0.out.lt _ hh).1; have := HBn.out; have := HW.out; have := HBl0.out; omega))).mono (show w.heap.size ≤ w1.heap.size by have := HBl0.out; have := HBn.out; have := HW.out; omega))
    have HO8_1 := Lib.hid ((HO9_1.out.kept g8 (Or.inr (fun hh => by have := (HO9_1.out.lt _ hh).1; have := HBn.out; have := HW.out; have := HBl0.out; omega))).mono (show w.heap.size ≤ w1.heap.size by have := HBl0.out; have := HBn.out; have := HW.out; omega))
    clear k8 g8 hk3 hk7
    apply Till.one (i := 3)
    · kernel_rfl
    · simp only [List.getElem?_toArray, List.getElem?_cons_succ, List.getElem?_cons_zero]
      rfl
    intro K hK
    go_simp
    skip
    refine hK.out _ _ (Or.inl (by rfl)) ?_
    clear hK K
    try simp only [Act.put, List.setIfInBounds_toArray, List.set_cons_zero, List.set_cons_succ]
    refine Till.done (by kernel_rfl) ?_ _
    go_wp2_with fail
    exact bodyPost_ret (v := .tuple #[.agg #[.int .i64 x, .slice au nxs cu], .agg #[.int .i64 y, .slice av nys cv]]) (by simp [results, Try.results24, go_sem, r0, r1, r2, r3]) rfl ⟨x, y, _, _, xs, ys, rfl, Hxw.out, Hyw.out, HO8_0.out, HO8_1.out, Hxsl.out, Hysl.out, HB0.out.trans HB8.out⟩
  | true =>
    have hk := blk_set HD.out 0 (.int .i64 x)
    have hg := grown_set w6 D 0 (.int .i64 x)
    have hE := (hg.block _ (lt_of_block HE.out) (fun h => by injection h with h; have := HGD.out; omega)).trans HE.out
    have hO := HO.out.kept hg (Or.inr (fun hh => own_ne_box (by decide) HO.out HD.out _ hh rfl))
    have hQ := HQ.out.kept hg (Or.inr (fun hh => own_ne_box (by decide) HQ.out HD.out _ hh rfl))
    have hC := HC.out.kept hg (fun h => by injection h with h; have := HL_HD.out; omega) (fun r hr => by injection hr with hr; have := HL_HD.out; have := HBn.out; have := HBs.out; omega)
    have hG := grown_own HG.out hg (fun r hr => by injection hr with hr; have := HL_HD.out; have := HBn.out; omega)
    have hD : (w6.setCell ⟨D, 0, none⟩ (.int .i64 x)).heap[D]? = some (.cells #[.int .i64 x, .slice av nys cv] 26 (0, 0)) := hk
    obtain ⟨wb, hwb⟩ : ∃ u, u = w6.setCell ⟨D, 0, none⟩ (.int .i64 x) := ⟨_, rfl⟩
    rw [← hwb] at hE hO hQ hC hG hD
    replace HE := Lib.hid hE
    replace HO := Lib.hid hO
    replace HQ := Lib.hid hQ
    replace HC := Lib.hid hC
    replace HG := Lib.hid hG
    replace HD := Lib.hid hD
    have HWb := Lib.hid hwb
    clear hk hg hE hO hQ hC hG hD hwb
    go_wp2_with fail
    rw [← HWb.out]
    clear k0 k1 k2 k3 kf2 kf3
    refine region_till (fun u => u.cell? ⟨G, 0, none⟩ = some (.int .i64 x) ∧ u.cell? ⟨G, 1, none⟩ = some (.slice au nxs cu) ∧ u.cell? ⟨D, 0, none⟩ = some (.int .i64 x) ∧ u.cell? ⟨D, 1, none⟩ = some (.slice av nys cv)) 3 (by kernel_rfl) ?_
    obtain ⟨wd, hwd⟩ : ∃ x, x = wb.drew := ⟨_, rfl⟩
    have hb : Below wb.heap.size wb wd := by rw [hwd]; exact (Below.refl _ _).drew
    rw [← hwd]
    clear hwd
    replace HE := Lib.hid ((hb.block _ (lt_of_block HE.out)).trans HE.out)
    replace HD := Lib.hid ((hb.block _ (lt_of_block HD.out)).trans HD.out)
    replace HO := Lib.hid (HO.out.next hb)
    replace HQ := Lib.hid (HQ.out.next hb)
    have hC := HC.out.kept (grown_of_below hb) (by simp) (fun r hr => by cases hr)
    replace HC := Lib.hid hC
    replace HG := Lib.hid (grown_trans HG.out (grown_none (grown_of_below hb)))
    clear hb hC
    have s0 : wd.cell? ⟨G, 0, none⟩ = some (.int .i64 x) ∧ wd.cell? ⟨G, 1, none⟩ = some (.slice au nxs cu) ∧ wd.cell? ⟨D, 0, none⟩ = some (.int .i64 x) ∧ wd.cell? ⟨D, 1, none⟩ = some (.slice av nys cv) := ⟨(scs HE.out).1, (scs HE.out).2.1, (scs HD.out).1, (scs HD.out).2.1⟩
    apply Till.take (i := 0) [0, 2, 3]
    · simp only [List.getElem?_toArray, List.getElem?_cons_zero]
      rfl
    · kernel_rfl
    · kernel_rfl
    · kernel_rfl
    · kernel_rfl
    · exact fun _ _ _ h => h
    · first
        | exact Or.inr ⟨by rfl, rfl⟩
        | (refine Or.inl ⟨by rfl, fun wq hwq => ?_⟩
           dsimp only at hwq
           go_simp
           first
             | done
             | rfl)
    · exact s0
    simp only [Act.put, List.setIfInBounds_toArray, List.set_cons_zero, List.set_cons_succ]
    apply Till.take (i := 1) [1, 3]
    · simp only [List.getElem?_toArray, List.getElem?_cons_succ, List.getElem?_cons_zero]
      rfl
    · kernel_rfl
    · kernel_rfl
    · kernel_rfl
    · kernel_rfl
    · exact fun _ _ _ h => h
    · first
        | exact Or.inr ⟨by rfl, rfl⟩
        | (refine Or.inl ⟨by rfl, fun wq hwq => ?_⟩
           dsimp only at hwq
           go_simp
           first
             | done
             | rfl)
    · exact s0
    simp only [Act.put, List.setIfInBounds_toArray, List.set_cons_zero, List.set_cons_succ]
    have hk1 := (HG.out.block _ (lt_of_block HZ1.out) (fun h => by injection h with h; have := HBn.out; have := HW.out; omega)).trans HZ1.out
    have hk2 := (HG.out.block _ (lt_of_block HZ2.out) (fun h => by injection h with h; have := HBn.out; have := HW.out; omega)).trans HZ2.out
    obtain ⟨p0, p1, pf0, pf1⟩ := scs hk1
    obtain ⟨k9, g9⟩ := sst hk1 (.int .i64 x) (.slice au nxs cu)
    have HB9 := Lib.hid (((below_of_grown HG.out (by have := HBn.out; have := HW.out; omega) (by have := HW.out; omega) : Below w.heap.size W0 wd)).grown g9 (by have := HW.out; have := HG.out.size; omega) (fun k hk => by injection hk with hk; omega))
    have hk3 := (g9.block _ (lt_of_block hk2) (fun h => by injection h with h; omega)).trans hk2
    obtain ⟨p2, p3, pf2, pf3⟩ := scs hk3

    have HO9_0 := Lib.hid (HO.out.kept g9 (Or.inr (fun hh => by have := (HO.out.lt _ hh).1; have := HBn.out; have := HW.out; have := HBl0.out; omega)))
    have HO9_1 := Lib.hid (HQ.out.kept g9 (Or.inr (fun hh => by have := (HQ.out.lt _ hh).1; have := HBn.out; have := HW.out; have := HBl0.out; omega)))
    have HX9_0 := Lib.hid ((g9.block _ (lt_of_block HE.out) (fun h => by injection h with h; have := HL_HE.out; have := HBn.out; have := HW.out; omega)).trans HE.out)
    have HX9_1 := Lib.hid ((g9.block _ (lt_of_block HD.out) (fun h => by injection h with h; have := HL_HD.out; have := HBn.out; have := HW.out; omega)).trans HD.out)
    have s1 : ((wd.setCell ⟨w.heap.size, 0, none⟩ (.int .i64 x)).setCell ⟨w.heap.size, 1, none⟩ (.slice au nxs cu)).cell? ⟨G, 0, none⟩ = some (.int .i64 x) ∧ ((wd.setCell ⟨w.heap.size, 0, none⟩ (.int .i64 x)).setCell ⟨w.heap.size, 1, none⟩ (.slice au nxs cu)).cell? ⟨G, 1, none⟩ = some (.slice au nxs cu) ∧ ((wd.setCell ⟨w.heap.size, 0, none⟩ (.int .i64 x)).setCell ⟨w.heap.size, 1, none⟩ (.slice au nxs cu)).cell? ⟨D, 0, none⟩ = some (.int .i64 x) ∧ ((wd.setCell ⟨w.heap.size, 0, none⟩ (.int .i64 x)).setCell ⟨w.heap.size, 1, none⟩ (.slice au nxs cu)).cell? ⟨D, 1, none⟩ = some (.slice av nys cv) := ⟨(scs HX9_0.out).1, (scs HX9_0.out).2.1, (scs HX9_1.out).1, (scs HX9_1.out).2.1⟩
    have HK9 := Lib.hid k9
    clear g9 k9 hk1 hk2
    apply Till.one (i := 2)
    · kernel_rfl
    · simp only [List.getElem?_toArray, List.getElem?_cons_succ, List.getElem?_cons_zero]
      rfl
    intro K hK
    go_simp
    skip
    refine hK.out _ _ (Or.inr s1) ?_
    clear hK K
    try simp only [Act.put, List.setIfInBounds_toArray, List.set_cons_zero, List.set_cons_succ]
    obtain ⟨wz, hwz⟩ : ∃ zz, zz = ((wd.setCell ⟨w.heap.size, 0, none⟩ (.int .i64 x)).setCell ⟨w.heap.size, 1, none⟩ (.slice au nxs cu)) := ⟨_, rfl⟩
    rw [← hwz] at hk3 p2 p3 pf2 pf3 s1 HB9 HK9 HO9_0 HO9_1 ⊢
    clear hwz s0 p0 p1 pf0 pf1
    obtain ⟨k8, g8⟩ := sst hk3 (.int .i64 x) (.slice av nys cv)
    have HB8 := Lib.hid (HB9.out.grown g8 (by have := HB9.out.size; have := HW.out; omega) (fun k hk => by injection hk with hk; omega))
    have hk7 := (g8.block _ (lt_of_block HK9.out) (fun h => by injection h with h; omega)).trans HK9.out
    obtain ⟨r0, r1, _⟩ := scs hk7
    obtain ⟨r2, r3, _⟩ := scs k8
    have HO8_0 := Lib.hid ((HO9_0.out.kept g8 (Or.inr (fun hh => by have := (HO9_0.out.lt _ hh).1; have := HBn.out; have := HW.out; have := HBl0.out; omega))).mono (show w.heap.size ≤ w1.heap.size by have := HBl0.out; have := HBn.out; have := HW.out; omega))
    have HO8_1 := Lib.hid ((HO9_1.out.kept g8 (Or.inr (fun hh => by have := (HO9_1.out.lt _ hh).1; have := HBn.out; have := HW.out; have := HBl0.out; omega))).mono (show w.heap.size ≤ w1.heap.size by have := HBl0.out; have := HBn.out; have := HW.out; omega))
    clear k8 g8 hk3 hk7
    apply Till.one (i := 3)
    · kernel_rfl
    · simp only [List.getElem?_toArray, List.getElem?_cons_succ, List.getElem?_cons_zero]
      rfl
    intro K hK
    go_simp
    skip
    refine hK.out _ _ (Or.inl (by rfl)) ?_
    clear hK K
    try simp only [Act.put, List.setIfInBounds_toArray, List.set_cons_zero, List.set_cons_succ]
    refine Till.done (by kernel_rfl) ?_ _
    go_wp2_with fail
    exact bodyPost_ret (v := .tuple #[.agg #[.int .i64 x, .slice au nxs cu], .agg #[.int .i64 x, .slice av nys cv]]) (by simp [results, Try.results24, go_sem, r0, r1, r2, r3]) rfl ⟨x, x, _, _, xs, ys, rfl, Hxw.out, Hxw.out, HO8_0.out, HO8_1.out, Hxsl.out, Hysl.out, HB0.out.trans HB8.out⟩

end Go.Proofs.Ytdlbpeippmibcaa
