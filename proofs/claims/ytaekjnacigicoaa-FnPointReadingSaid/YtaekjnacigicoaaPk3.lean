/- Leaves of point keys: leafBelow, bitAt, EvaluatePoint, EvaluateAll. No conditions but numbers that a machine holds. -/
import Derived.Test.YtaekjnacigicoaaPk2
namespace Go.Proofs.Ytaekjnacigicoaa
open Go Go.RowKit
set_option linter.unusedVariables false
attribute [local irreducible] kh

set_option maxHeartbeats 4000000 in
/-- corrections.leafBelow -/
theorem leaf_any {l : Nat} {w : World} {e0 : TypeId} {a : Option Addr} {cap I : Nat} {cs : List Cor} {s t : Int} (h : (sliceT e0 tyCorrection).rd l w [.slice a cs.length cap] cs) (hl : l ≤ w.heap.size) (hs : (Lit.int .i64 s).wf = true) (ht : (Lit.int .i64 t).wf = true) (hn : cs.length ≤ 6) (hI : I ≤ 63) :
    Calls Try.prog 39 #[.slice a cs.length cap, .agg #[.int .i64 s, .int .i64 t], .int .i64 (I : Int)] w fun e w' => e = .returned (.agg #[.int .i64 (lf (s, t) cs I).1, .int .i64 (lf (s, t) cs I).2]) ∧ Below w.heap.size w w' := by
  obtain ⟨a', cap', hv, h1, h2, hc⟩ := sl_open h
  injection hv with hv
  injection hv with hv1 hv2 hv3
  subst hv1
  subst hv3
  have Hc := Lib.hid hc
  unfold maxLen at h2
  obtain ⟨x, hx⟩ : ∃ x, x = lf (s, t) cs I := ⟨_, rfl⟩
  rw [← hx]
  have HX := Lib.hid hx
  have HS := Lib.hid hs
  have HT := Lib.hid ht
  have hw0 : Below w.heap.size w ((w.alloc (.cells #[.int .i64 s, .int .i64 t] 44)).alloc (.cells #[.int .i64 0, .int .i64 0] 44)) := ((Below.refl w.heap.size w).alloc (Nat.le_refl _) _).alloc (by simp) _
  have K := blocks2T w (.cells #[.int .i64 s, .int .i64 t] 44) (.cells #[.int .i64 0, .int .i64 0] 44)
  obtain ⟨W0, hW0⟩ : ∃ W, W = (w.alloc (.cells #[.int .i64 s, .int .i64 t] 44)).alloc (.cells #[.int .i64 0, .int .i64 0] 44) := ⟨_, rfl⟩
  rw [← hW0] at hw0 K
  have HB := Lib.hid hw0
  have KN := Lib.hid K.1
  have KR := Lib.hid K.2
  have HW0 := Lib.hid hW0
  clear h hc hv2 hx hs ht hw0 K hW0
  go_enter Try.func39, Try.ntmps39
  go_wp2_with fail
  rw [← HW0.out]
  go_cut [7, 8] (fun p b wx => p = .pointer (some ⟨W0.heap.size, 0, none⟩) ∧ b = .int .i64 (cs.length : Int) ∧ wx = (W0.alloc (.cells #[.int .i64 s, .int .i64 t] 44)).drew)
  case first =>
    have d0 : W0.drew.cell? ⟨w.heap.size, 0, none⟩ = some (.int .i64 s) ∧ W0.drew.cell? ⟨w.heap.size, 1, none⟩ = some (.int .i64 t) := ⟨(blk_cell KN.out 0).trans (tw0 _ _), (blk_cell KN.out 1).trans (tw1 _ _)⟩
    have hal : ∀ o : Obj, (W0.alloc o).drew.cell? ⟨w.heap.size, 0, none⟩ = some (.int .i64 s) ∧ (W0.alloc o).drew.cell? ⟨w.heap.size, 1, none⟩ = some (.int .i64 t) := fun o =>
      ⟨(blk_cell ((heap_alloc_old W0 o (lt_of_block KN.out)).trans KN.out) 0).trans (tw0 _ _), (blk_cell ((heap_alloc_old W0 o (lt_of_block KN.out)).trans KN.out) 1).trans (tw1 _ _)⟩
    have d1 := hal (.cells #[.int .i64 0, .int .i64 0] 44)
    have d2 := hal (.cells #[.int .i64 s, .int .i64 0] 44)
    have d3 := hal (.cells #[.int .i64 s, .int .i64 t] 44)
    clear hal
    go_region_held3 (fun w' => w'.cell? ⟨w.heap.size, 0, none⟩ = some (.int .i64 s) ∧ w'.cell? ⟨w.heap.size, 1, none⟩ = some (.int .i64 t)) (first | assumption | go_keep) ((first
      | (go_at_call 27
         go_loud (refine (depth_any).mono ?_
                  rintro e w1 ⟨he, hw⟩
                  subst hw
                  subst he))))
    all_goals
      clear d0 d1 d2 d3
      go_wp2_with fail
      go_meet
      case rel => exact ⟨rfl, rfl, rfl⟩
  case rest =>
  obtain ⟨rfl, rfl, rfl⟩ := hcut
  obtain ⟨L, hL⟩ : ∃ L, L = W0.heap.size := ⟨_, rfl⟩
  have KL := heap_alloc_new W0 (.cells #[.int .i64 s, .int .i64 t] 44)
  have KR1 := (heap_alloc_old W0 (.cells #[.int .i64 s, .int .i64 t] 44) (lt_of_block KR.out)).trans KR.out
  have HB1 := (HB.out.alloc HB.out.size (.cells #[.int .i64 s, .int .i64 t] 44)).drew
  have HLR : Hid (w.heap.size + 1 < L) := Lib.hid (by rw [hL]; exact lt_of_block KR.out)
  rw [← hL] at KL ⊢
  obtain ⟨W1, hW1⟩ : ∃ W, W = (W0.alloc (.cells #[.int .i64 s, .int .i64 t] 44)).drew := ⟨_, rfl⟩
  replace KL : W1.heap[L]? = some (.cells #[.int .i64 s, .int .i64 t] 44) := by rw [hW1]; exact KL
  replace KR1 : W1.heap[w.heap.size + 1]? = some (.cells #[.int .i64 0, .int .i64 0] 44) := by rw [hW1]; exact KR1
  rw [← hW1] at HB1 ⊢
  replace HB := Lib.hid HB1
  replace KR := Lib.hid KR1
  have HL := Lib.hid KL
  clear hW1 KL KR1 HB1 hL KN HW0
  go_wp2_with fail
  go_loopw [8, 16] (fun m i wr => ∃ (j k : Nat) (y : Int × Int), i = .int .i64 j ∧ m = .int .i64 k ∧ k + j = cs.length ∧ lf y (cs.drop j) I = x ∧ (Lit.int .i64 y.1).wf = true ∧ wr.heap[L]? = some (.cells #[.int .i64 y.1, .int .i64 y.2] 44) ∧ wr.heap[w.heap.size + 1]? = some (.cells #[.int .i64 0, .int .i64 0] 44) ∧ Below w.heap.size w wr) (fun _ i _ => cs.length - (intOf i).toNat)
  case atStart => exact ⟨0, cs.length, (s, t), rfl, rfl, by omega, by rw [List.drop_zero]; exact HX.out.symm, HS.out, HL.out, KR.out, HB.out⟩
  case round =>
    obtain ⟨j, k, y, rfl, rfl, hjk, hlf, hy, hKL, hKR, hB⟩ := hrel
    replace HB := Lib.hid hB
    replace KR := Lib.hid hKR
    have KL := Lib.hid hKL
    have HY := Lib.hid hy
    have HF := Lib.hid hlf
    have HJK := Lib.hid hjk
    clear hB hKR hKL hy hlf HL
    by_cases hlt : j < cs.length
    · have e2 : decide ((j : Int) < (cs.length : Int)) = true := by simp; omega
      obtain ⟨g, p, rfl, hbl, hcell⟩ := Hc.out (by omega)
      obtain ⟨c, hc⟩ : ∃ c, cs[j]? = some c := ⟨_, List.getElem?_eq_getElem hlt⟩
      obtain ⟨d, hrd, hcl⟩ := hcell wr (HB.out.mono hl) j c hc
      obtain ⟨rfl, w1, w2, w3⟩ := rd_Correction hrd
      have c0 : wr.cell? ⟨g, p + j * 3, none⟩ = _ := hcl 0 _ rfl
      have c1 : wr.cell? ⟨g, p + j * 3 + 1, none⟩ = _ := hcl 1 _ rfl
      have c2 : wr.cell? ⟨g, p + j * 3 + 2, none⟩ = _ := hcl 2 _ rfl
      obtain ⟨k', rfl⟩ : ∃ k', k = k' + 1 := ⟨k - 1, by omega⟩
      have hk6 : k' ≤ 6 := by omega
      have HK6 := Lib.hid hk6
      have HSt : Hid (lf y (cs.drop j) I = lf (evN y.1 y.2 (bt I k') c) (cs.drop (j + 1)) I) := Lib.hid (by
        rw [lf_step hc, show cs.length - 1 - j = k' by omega])
      have KC := heap_alloc_new wr (.cells #[.int .i64 c.1, .int .i64 c.2.1, .int .i64 c.2.2] 47)
      have KL1 := (heap_alloc_old wr (.cells #[.int .i64 c.1, .int .i64 c.2.1, .int .i64 c.2.2] 47) (lt_of_block KL.out)).trans KL.out
      have KR1 := (heap_alloc_old wr (.cells #[.int .i64 c.1, .int .i64 c.2.1, .int .i64 c.2.2] 47) (lt_of_block KR.out)).trans KR.out
      have HB1 := HB.out.alloc HB.out.size (.cells #[.int .i64 c.1, .int .i64 c.2.1, .int .i64 c.2.2] 47)
      clear hc hrd hcl hcell w1 w2 w3 hjk
      go_wp2_with fail
      obtain ⟨W2, hW2⟩ : ∃ W, W = wr.alloc (.cells #[.int .i64 c.1, .int .i64 c.2.1, .int .i64 c.2.2] 47) := ⟨_, rfl⟩
      rw [← hW2] at KC KL1 KR1 HB1 ⊢
      replace KL := Lib.hid KL1
      replace KR := Lib.hid KR1
      have KCc := Lib.hid KC
      replace HB := Lib.hid HB1
      clear hW2 KC KL1 KR1 HB1 c0 c1 c2
      have HCs : Hid (∀ w', Below W2.heap.size W2 w' → (w'.cell? ⟨L, 0, none⟩ = some (.int .i64 y.1) ∧ w'.cell? ⟨L, 1, none⟩ = some (.int .i64 y.2) ∧ w'.cell? ⟨wr.heap.size, 0, none⟩ = some (.int .i64 c.1) ∧ w'.cell? ⟨wr.heap.size, 1, none⟩ = some (.int .i64 c.2.1) ∧ w'.cell? ⟨wr.heap.size, 2, none⟩ = some (.int .i64 c.2.2))) := Lib.hid (fun w' hb =>
        have q1 := (hb.block _ (lt_of_block KL.out)).trans KL.out
        have q2 := (hb.block _ (lt_of_block KCc.out)).trans KCc.out
        ⟨(blk_cell q1 0).trans (tw0 _ _), (blk_cell q1 1).trans (tw1 _ _), (blk_cell q2 0).trans (th0 _ _ _), (blk_cell q2 1).trans (th1 _ _ _), (blk_cell q2 2).trans (th2 _ _ _)⟩)
      have d0 := HCs.out W2.drew (Below.refl _ _).drew
      refine region_till (fun w' => w'.cell? ⟨L, 0, none⟩ = some (.int .i64 y.1) ∧ w'.cell? ⟨L, 1, none⟩ = some (.int .i64 y.2) ∧ w'.cell? ⟨wr.heap.size, 0, none⟩ = some (.int .i64 c.1) ∧ w'.cell? ⟨wr.heap.size, 1, none⟩ = some (.int .i64 c.2.1) ∧ w'.cell? ⟨wr.heap.size, 2, none⟩ = some (.int .i64 c.2.2)) 6 (by kernel_rfl) ?_
      apply Till.take (i := 0) [0, 5, 6]
      · simp only [List.getElem?_toArray, List.getElem?_cons_zero]
        rfl
      · kernel_rfl
      · kernel_rfl
      · kernel_rfl
      · kernel_rfl
      · exact fun _ _ _ h => h
      · first
          | exact Or.inr ⟨by rfl, rfl⟩
          | (refine Or.inl ⟨by rfl, fun wq hwq => ?_⟩
             dsimp only at hwq
             go_simp
             first
               | done
               | rfl)
      · exact d0
      simp only [Act.put, List.setIfInBounds_toArray, List.set_cons_zero, List.set_cons_succ]
      apply Till.take (i := 1) [1, 3, 5, 6]
      · simp only [List.getElem?_toArray, List.getElem?_cons_succ, List.getElem?_cons_zero]
        rfl
      · kernel_rfl
      · kernel_rfl
      · kernel_rfl
      · kernel_rfl
      · exact fun _ _ _ h => h
      · first
          | exact Or.inr ⟨by rfl, rfl⟩
          | (refine Or.inl ⟨by rfl, fun wq hwq => ?_⟩
             dsimp only at hwq
             go_simp
             first
               | done
               | rfl)
      · exact d0
      simp only [Act.put, List.setIfInBounds_toArray, List.set_cons_zero, List.set_cons_succ]
      apply Till.take (i := 2) [2, 3, 5, 6]
      · simp only [List.getElem?_toArray, List.getElem?_cons_succ, List.getElem?_cons_zero]
        rfl
      · kernel_rfl
      · kernel_rfl
      · kernel_rfl
      · kernel_rfl
      · exact fun _ _ _ h => h
      · first
          | exact Or.inr ⟨by rfl, rfl⟩
          | (refine Or.inl ⟨by rfl, fun wq hwq => ?_⟩
             dsimp only at hwq
             go_simp
             first
               | done
               | rfl)
      · exact d0
      simp only [Act.put, List.setIfInBounds_toArray, List.set_cons_zero, List.set_cons_succ]
      apply Till.take (i := 4) [4, 5, 6]
      · simp only [List.getElem?_toArray, List.getElem?_cons_succ, List.getElem?_cons_zero]
        rfl
      · kernel_rfl
      · kernel_rfl
      · kernel_rfl
      · kernel_rfl
      · exact fun _ _ _ h => h
      · first
          | exact Or.inr ⟨by rfl, rfl⟩
          | (refine Or.inl ⟨by rfl, fun wq hwq => ?_⟩
             dsimp only at hwq
             go_simp
             first
               | done
               | rfl)
      · exact d0
      simp only [Act.put, List.setIfInBounds_toArray, List.set_cons_zero, List.set_cons_succ]
      apply Till.one (i := 3)
      · kernel_rfl
      · simp only [List.getElem?_toArray, List.getElem?_cons_succ, List.getElem?_cons_zero]
        rfl
      intro K hK
      go_simp
      refine (impl_side _ I k' hI HK6.out).mono ?_
      rintro e' w5 ⟨he, hw5⟩
      subst hw5
      subst he
      refine hK.out _ _ (Or.inr d0) ?_
      clear hK K
      try simp only [Act.put, List.setIfInBounds_toArray, List.set_cons_zero, List.set_cons_succ]
      apply Till.one (i := 5)
      · kernel_rfl
      · simp only [List.getElem?_toArray, List.getElem?_cons_succ, List.getElem?_cons_zero]
        rfl
      intro K hK
      go_simp
      refine (child_any HY.out (bt_wf I k')).mono ?_
      obtain ⟨z, hz⟩ : ∃ z, z = evN y.1 y.2 (bt I k') c := ⟨_, rfl⟩
      rw [← hz]
      have HZ := Lib.hid hz
      clear hz
      rintro e' w6 ⟨he, hb⟩
      subst he
      have hb6 : Below W2.heap.size W2 w6 := (Below.refl _ _).drew.trans (hb.mono (Nat.le_refl _))
      have d6 := HCs.out w6 hb6
      have KL6 := (hb6.block _ (lt_of_block KL.out)).trans KL.out
      have KR6 := (hb6.block _ (lt_of_block KR.out)).trans KR.out
      have HB6 := HB.out.trans (hb6.mono HB.out.size)
      have f0 := blk_free KL6 0
      have f1 := blk_free KL6 1
      clear hb hb6
      refine hK.out _ _ (Or.inr d6) ?_
      clear hK K
      try simp only [Act.put, List.setIfInBounds_toArray, List.set_cons_zero, List.set_cons_succ]
      apply Till.one (i := 6)
      · kernel_rfl
      · simp only [List.getElem?_toArray, List.getElem?_cons_succ, List.getElem?_cons_zero]
        rfl
      intro K hK
      go_simp
      skip
      refine hK.out _ _ (Or.inl (by rfl)) ?_
      clear hK K
      try simp only [Act.put, List.setIfInBounds_toArray, List.set_cons_zero, List.set_cons_succ]
      refine Till.done (by kernel_rfl) ?_ _
      obtain ⟨p1, p2⟩ := put2 KL6 (.int .i64 z.1) (.int .i64 z.2)
      have KR7 := (p2.block _ (lt_of_block KR6) (by have := HLR.out; omega)).trans KR6
      have HB7 := HB6.trans (p2.below (B := w.heap.size) (fun b hb => by have := HLR.out; omega) HB6.size)
      obtain ⟨W5, hW5⟩ : ∃ W5, W5 = (w6.setCell ⟨L, 0, none⟩ (.int .i64 z.1)).setCell ⟨L, 1, none⟩ (.int .i64 z.2) := ⟨_, rfl⟩
      rw [← hW5] at p1 KR7 HB7 ⊢
      have Q1 := Lib.hid p1
      have Q2 := Lib.hid KR7
      have Q3 := Lib.hid HB7
      clear p1 p2 KR7 HB7 hW5 d0 d6 KL6 KR6 HB6 f0 f1
      go_wp2_with fail
      go_roundw
      case rel => exact ⟨j + 1, k', z, by simp, by simp, by have := HJK.out; omega, by rw [HZ.out, ← HSt.out]; exact HF.out, by rw [HZ.out]; exact evN_wf1 _ _ _ _, Q1.out, Q2.out, Q3.out⟩
      case measure => simp [intOf]; omega
    · have e2 : decide ((j : Int) < (cs.length : Int)) = false := by simp; omega
      have HE : Hid (y = x) := Lib.hid (by
        have := HF.out
        rwa [show j = cs.length by omega, List.drop_length, lf_nil] at this)
      have k0 := blk_cell KL.out 0
      have k1 := blk_cell KL.out 1
      have f0 := blk_free KR.out 0
      have f1 := blk_free KR.out 1
      have r0 := blk_cell KR.out 0
      have r1 := blk_cell KR.out 1
      rw [tw0] at k0 r0
      rw [tw1] at k1 r1
      clear hjk
      go_wp2_with fail
      obtain ⟨p1, p2⟩ := put2 KR.out (.int .i64 y.1) (.int .i64 y.2)
      have Q2 := Lib.hid (HB.out.trans (p2.below (B := w.heap.size) (fun b hb => by omega) HB.out.size))
      obtain ⟨W5, hW5⟩ : ∃ W5, W5 = (wr.setCell ⟨w.heap.size + 1, 0, none⟩ (.int .i64 y.1)).setCell ⟨w.heap.size + 1, 1, none⟩ (.int .i64 y.2) := ⟨_, rfl⟩
      rw [← hW5] at p1 Q2 ⊢
      have s0 := blk_cell p1 0
      have s1 := blk_cell p1 1
      rw [tw0] at s0
      rw [tw1] at s1
      clear k0 k1 f0 f1 r0 r1 hW5 p1 p2
      rw [← HE.out]
      exact bodyPost_ret (v := .agg #[.int .i64 y.1, .int .i64 y.2]) (by simp [results, Try.results39, go_sem, s0, s1]) rfl ⟨rfl, Q2.out⟩

end Go.Proofs.Ytaekjnacigicoaa
