/- FnExactSpendToken: the walk. No conditions. -/
import Derived.Test.YtdlbpeippmibcaaSpW
import Derived.Test.YtdlbpeippmibcaaCells
import Derived.Deep.RegionHeld3
import Derived.Deep.DeepCutAuto
namespace Go.Proofs.Ytdlbpeippmibcaa
open Go Go.RowKit
set_option linter.unusedVariables false
attribute [local irreducible] kh

set_option maxHeartbeats 4000000 in
set_option maxRecDepth 100000 in
theorem fnExactSpendToken_walk (c0 : List Value) (s0 : VSpentList) (a1 : Int) (c2 : List Value) (s2 : VToken) (w : World) (w0 : tySpentList.rd w.heap.size w c0 s0) (w1 : (Lit.int .i64 a1).wf = true) (w2 : tyToken.rd w.heap.size w c2 s2) :
    Calls Try.prog 7 #[.agg c0.toArray, .int .i64 a1, .agg c2.toArray] w fun e w' => e = .returned (.bool true) ∧ Below w.heap.size w w' := by
  obtain ⟨a0_1, n0_1, rfl, _⟩ := rd_SpentList w0
  have A0 := Lib.hid w0
  clear w0
  obtain ⟨rfl, _⟩ := rd_Token w2
  have A2 := Lib.hid w2
  clear w2
  have W1 := Lib.hid w1
  have w1b := wf_i64 w1
  clear w1
  by_cases bz0 : (tySpentList.tot s0 : Int) ≤ (1048576 : Int)
  case neg =>
    have C0 := Lib.hid bz0
    clear bz0
    go_enter Try.func7, Try.ntmps7
    have hb := (((Below.refl w.heap.size w).alloc (Nat.le_refl _) (.cells #[.int .i64 s0.1, .slice a0_1 s0.2.length n0_1] 45)).alloc (by simp) (.cells #[.int .i64 s2.1, .int .i64 s2.2] 49))
    have KK := blocks2T w (.cells #[.int .i64 s0.1, .slice a0_1 s0.2.length n0_1] 45) (.cells #[.int .i64 s2.1, .int .i64 s2.2] 49)
    have K_p0 := Lib.hid KK.1
    have K_p2 := Lib.hid KK.2
    clear KK
    replace A0 := Lib.hid (tySpentList.behind A0.out hb)
    replace A2 := Lib.hid (tyToken.behind A2.out hb)
    have HB := Lib.hid hb
    clear hb
    have k_p0_0 := blk_cell K_p0.out 0
    rw [cell2_0] at k_p0_0
    have k_p0_1 := blk_cell K_p0.out 1
    rw [cell2_1] at k_p0_1
    have k_p2_0 := blk_cell K_p2.out 0
    rw [cell2_0] at k_p2_0
    have k_p2_1 := blk_cell K_p2.out 1
    rw [cell2_1] at k_p2_1
    go_wp2_with fail
    clear k_p0_0 k_p0_1 k_p2_0 k_p2_1
    obtain ⟨w1_, hw⟩ : ∃ x, x = ((w.alloc (.cells #[.int .i64 s0.1, .slice a0_1 s0.2.length n0_1] 45)).alloc (.cells #[.int .i64 s2.1, .int .i64 s2.2] 49)) := ⟨_, rfl⟩
    rw [← hw] at HB A0 A2 K_p0 K_p2 ⊢
    clear hw
    refine (szSpentList_any A0.out (by omega) (by omega) HB.out.size).mono ?_
    rintro e w2_ ⟨he, hb⟩
    rw [if_neg (by have := C0.out; omega)] at he
    subst he
    replace A0 := Lib.hid (tySpentList.behind A0.out (hb.mono HB.out.size))
    replace A2 := Lib.hid (tyToken.behind A2.out (hb.mono HB.out.size))
    replace K_p0 := Lib.hid ((hb.block _ (lt_of_block K_p0.out)).trans K_p0.out)
    replace K_p2 := Lib.hid ((hb.block _ (lt_of_block K_p2.out)).trans K_p2.out)
    replace HB := Lib.hid (HB.out.trans (hb.mono HB.out.size))
    clear hb
    have k_p0_0 := blk_cell K_p0.out 0
    rw [cell2_0] at k_p0_0
    have k_p0_1 := blk_cell K_p0.out 1
    rw [cell2_1] at k_p0_1
    have k_p2_0 := blk_cell K_p2.out 0
    rw [cell2_0] at k_p2_0
    have k_p2_1 := blk_cell K_p2.out 1
    rw [cell2_1] at k_p2_1
    go_wp2_with fail
    clear k_p0_0 k_p0_1 k_p2_0 k_p2_1
    go_ret
    exact ⟨rfl, HB.out⟩
  have C0 := Lib.hid bz0
  obtain ⟨q0, hq0⟩ : ∃ q : Int, q = (1048576 : Int) - (tySpentList.tot s0 : Int) := ⟨_, rfl⟩
  have d0q : decide (q0 < 0) = false := by simp; omega
  have e0q : 0 ≤ q0 ∧ q0 ≤ 1048576 := by omega
  have B0t : Hid (tySpentList.tot s0 ≤ 1048576) := Lib.hid (by omega)
  have H0q := Lib.hid hq0
  clear hq0 bz0
  go_enter Try.func7, Try.ntmps7
  have hb := (((Below.refl w.heap.size w).alloc (Nat.le_refl _) (.cells #[.int .i64 s0.1, .slice a0_1 s0.2.length n0_1] 45)).alloc (by simp) (.cells #[.int .i64 s2.1, .int .i64 s2.2] 49))
  have KK := blocks2T w (.cells #[.int .i64 s0.1, .slice a0_1 s0.2.length n0_1] 45) (.cells #[.int .i64 s2.1, .int .i64 s2.2] 49)
  have K_p0 := Lib.hid KK.1
  have K_p2 := Lib.hid KK.2
  clear KK
  replace A0 := Lib.hid (tySpentList.behind A0.out hb)
  replace A2 := Lib.hid (tyToken.behind A2.out hb)
  have HB := Lib.hid hb
  clear hb
  have k_p0_0 := blk_cell K_p0.out 0
  rw [cell2_0] at k_p0_0
  have k_p0_1 := blk_cell K_p0.out 1
  rw [cell2_1] at k_p0_1
  have k_p2_0 := blk_cell K_p2.out 0
  rw [cell2_0] at k_p2_0
  have k_p2_1 := blk_cell K_p2.out 1
  rw [cell2_1] at k_p2_1
  go_wp2_with fail
  clear k_p0_0 k_p0_1 k_p2_0 k_p2_1
  obtain ⟨w1_, hw⟩ : ∃ x, x = ((w.alloc (.cells #[.int .i64 s0.1, .slice a0_1 s0.2.length n0_1] 45)).alloc (.cells #[.int .i64 s2.1, .int .i64 s2.2] 49)) := ⟨_, rfl⟩
  rw [← hw] at HB A0 A2 K_p0 K_p2 ⊢
  clear hw
  refine (szSpentList_any A0.out (by omega) (by omega) HB.out.size).mono ?_
  rintro e w2_ ⟨he, hb⟩
  rw [if_pos (by have := C0.out; omega), ← H0q.out] at he
  subst he
  replace A0 := Lib.hid (tySpentList.behind A0.out (hb.mono HB.out.size))
  replace A2 := Lib.hid (tyToken.behind A2.out (hb.mono HB.out.size))
  replace K_p0 := Lib.hid ((hb.block _ (lt_of_block K_p0.out)).trans K_p0.out)
  replace K_p2 := Lib.hid ((hb.block _ (lt_of_block K_p2.out)).trans K_p2.out)
  replace HB := Lib.hid (HB.out.trans (hb.mono HB.out.size))
  clear hb
  -- ('sz', 0)
  -- ('call', 'spec', 'SpendToken', [('copy', 0, 'SpentList'), ('arg', 1), ('copy', 2, 'Token')], ['w0', 'w1'])
  obtain ⟨Y0, hY0⟩ : ∃ y : VSpentList, y = (s0.1, spL s0.1 s0.2 a1 s2.1 s2.2) := ⟨_, rfl⟩
  have HY0 := Lib.hid hY0
  clear hY0
  obtain ⟨Y1, hY1⟩ : ∃ y : Int, y = spR s0.1 s0.2 a1 s2.1 s2.2 := ⟨_, rfl⟩
  have HY1 := Lib.hid hY1
  clear hY1
  have k_p0_0 := blk_cell K_p0.out 0
  rw [cell2_0] at k_p0_0
  have k_p0_1 := blk_cell K_p0.out 1
  rw [cell2_1] at k_p0_1
  have k_p2_0 := blk_cell K_p2.out 0
  rw [cell2_0] at k_p2_0
  have k_p2_1 := blk_cell K_p2.out 1
  rw [cell2_1] at k_p2_1
  go_wp2_with fail
  clear k_p0_0 k_p0_1 k_p2_0 k_p2_1
  go_cut [8, 9] (fun p0 p1 wx => ∃ (E : Nat) (ar_1 : Option Addr) (nr_1 : Nat) (F : Nat → Prop) (WW : World), WW = wx ∧ p0 = .pointer (some ⟨E, 0, none⟩) ∧ p1 = .int .i64 Y1 ∧ wx.heap[E]? = some (.cells #[.int .i64 Y0.1, .slice ar_1 Y0.2.length nr_1] 26 (0, 0)) ∧ tySpentList.own F wx [.int .i64 Y0.1, .slice ar_1 Y0.2.length nr_1] Y0 ∧ (∀ b, F b → (w2_.heap.size ≤ b ∧ b < wx.heap.size) ∧ b ≠ E) ∧ w2_.heap.size ≤ E ∧ Below w2_.heap.size w2_ wx)
  case first =>
    refine region_till (fun x => x.cell? ⟨w.heap.size, 0, none⟩ = some (.int .i64 s0.1) ∧ x.cell? ⟨w.heap.size, 1, none⟩ = some (.slice a0_1 s0.2.length n0_1) ∧ x.cell? ⟨w.heap.size + 1, 0, none⟩ = some (.int .i64 s2.1) ∧ x.cell? ⟨w.heap.size + 1, 1, none⟩ = some (.int .i64 s2.2)) 11 (by kernel_rfl) ?_
    obtain ⟨wd, hwd⟩ : ∃ x, x = w2_.drew := ⟨_, rfl⟩
    have HR : Hid (Below w2_.heap.size w2_ wd) := Lib.hid (by rw [hwd]; exact (Below.refl _ _).drew)
    have HSr : Hid (∀ x, Below w2_.heap.size w2_ x → (x.cell? ⟨w.heap.size, 0, none⟩ = some (.int .i64 s0.1) ∧ x.cell? ⟨w.heap.size, 1, none⟩ = some (.slice a0_1 s0.2.length n0_1) ∧ x.cell? ⟨w.heap.size + 1, 0, none⟩ = some (.int .i64 s2.1) ∧ x.cell? ⟨w.heap.size + 1, 1, none⟩ = some (.int .i64 s2.2))) := Lib.hid (fun x hx => ⟨(blk_cell ((hx.block _ (lt_of_block K_p0.out)).trans K_p0.out) 0).trans (cell2_0 _ _), (blk_cell ((hx.block _ (lt_of_block K_p0.out)).trans K_p0.out) 1).trans (cell2_1 _ _), (blk_cell ((hx.block _ (lt_of_block K_p2.out)).trans K_p2.out) 0).trans (cell2_0 _ _), (blk_cell ((hx.block _ (lt_of_block K_p2.out)).trans K_p2.out) 1).trans (cell2_1 _ _)⟩)
    have d0 := HSr.out _ HR.out
    rw [← hwd]
    clear hwd
    apply Till.take (i := 0) [0, 1, 5, 6, 8, 11]
    · simp only [List.getElem?_toArray, List.getElem?_cons_zero]
      rfl
    · kernel_rfl
    · kernel_rfl
    · kernel_rfl
    · kernel_rfl
    · exact fun _ _ _ h => h
    · first
        | exact Or.inr ⟨by rfl, rfl⟩
        | (refine Or.inl ⟨by rfl, fun wq hwq => ?_⟩
           dsimp only at hwq
           go_simp
           first
             | done
             | rfl)
    · exact d0
    simp only [Act.put, List.setIfInBounds_toArray, List.set_cons_zero, List.set_cons_succ]
    apply Till.take (i := 2) [2, 5, 6, 8, 11]
    · simp only [List.getElem?_toArray, List.getElem?_cons_succ, List.getElem?_cons_zero]
      rfl
    · kernel_rfl
    · kernel_rfl
    · kernel_rfl
    · kernel_rfl
    · exact fun _ _ _ h => h
    · first
        | exact Or.inr ⟨by rfl, rfl⟩
        | (refine Or.inl ⟨by rfl, fun wq hwq => ?_⟩
           dsimp only at hwq
           go_simp
           first
             | done
             | rfl)
    · exact d0
    simp only [Act.put, List.setIfInBounds_toArray, List.set_cons_zero, List.set_cons_succ]
    apply Till.take (i := 3) [3, 4, 5, 6, 8, 11]
    · simp only [List.getElem?_toArray, List.getElem?_cons_succ, List.getElem?_cons_zero]
      rfl
    · kernel_rfl
    · kernel_rfl
    · kernel_rfl
    · kernel_rfl
    · exact fun _ _ _ h => h
    · first
        | exact Or.inr ⟨by rfl, rfl⟩
        | (refine Or.inl ⟨by rfl, fun wq hwq => ?_⟩
           dsimp only at hwq
           go_simp
           first
             | done
             | rfl)
    · exact d0
    simp only [Act.put, List.setIfInBounds_toArray, List.set_cons_zero, List.set_cons_succ]
    apply Till.two (i := 1) (j := 9)
    · kernel_rfl
    · simp only [List.getElem?_toArray, List.getElem?_cons_succ, List.getElem?_cons_zero]
      rfl
    · simp only [List.getElem?_toArray, List.getElem?_cons_succ, List.getElem?_cons_zero]
      rfl
    · intro K0 hK
      go_simp
      refine (toSpentList_any (tySpentList.behind A0.out (HR.out.mono HB.out.size)) (Nat.le_trans HB.out.size HR.out.size) (Nat.le_trans B0t.out (by decide))).mono ?_
      rintro e' x1 ⟨c_z0, he, hO_z0, hb⟩
      subst he
      obtain ⟨az0_1, nz0_1, _, rfl, _⟩ := own_SpentList hO_z0
      replace HR := Lib.hid (HR.out.trans (hb.mono HR.out.size))
      clear hb d0
      have d0 := HSr.out _ HR.out
      have HO_z0 := Lib.hid hO_z0
      clear hO_z0
      refine hK.out _ _ (Or.inr d0) ?_
      clear hK K0
      try simp only [Act.put, List.setIfInBounds_toArray, List.set_cons_zero, List.set_cons_succ]
      apply Till.two (i := 4) (j := 9)
      · kernel_rfl
      · simp only [List.getElem?_toArray, List.getElem?_cons_succ, List.getElem?_cons_zero]
        rfl
      · simp only [List.getElem?_toArray, List.getElem?_cons_succ, List.getElem?_cons_zero]
        rfl
      · intro K0 hK
        go_simp
        refine (toToken_any (tyToken.behind A2.out (HR.out.mono HB.out.size)) (Nat.le_trans HB.out.size HR.out.size) (show (0 : Nat) ≤ 1073741824 by decide)).mono ?_
        rintro e' x2 ⟨c_z2, he, hO_z2, hb⟩
        subst he
        obtain ⟨rfl, _⟩ := own_Token hO_z2
        replace HO_z0 := Lib.hid (tySpentList.onext HO_z0.out hb)
        replace HR := Lib.hid (HR.out.trans (hb.mono HR.out.size))
        clear hb d0
        have d0 := HSr.out _ HR.out
        have HO_z2 := Lib.hid hO_z2
        clear hO_z2
        refine hK.out _ _ (Or.inr d0) ?_
        clear hK K0
        try simp only [Act.put, List.setIfInBounds_toArray, List.set_cons_zero, List.set_cons_succ]
        apply Till.two (i := 5) (j := 9)
        · kernel_rfl
        · simp only [List.getElem?_toArray, List.getElem?_cons_succ, List.getElem?_cons_zero]
          rfl
        · simp only [List.getElem?_toArray, List.getElem?_cons_succ, List.getElem?_cons_zero]
          rfl
        · intro K0 hK
          go_simp
          refine (spec_spt_t (tySpentList.ord HO_z0.out) (Nat.le_refl _) (tyToken.ord HO_z2.out) (Nat.le_refl _) W1.out B0t.out).mono ?_
          rintro e' x3 ⟨c_r, F_r, he, hO_r, hF_r, hb⟩
          replace hO_r : tySpentList.own F_r x3 c_r ((s0.1, spL s0.1 s0.2 a1 s2.1 s2.2)) := hO_r
          rw [← HY0.out] at hO_r
          rw [← HY1.out] at he
          subst he
          obtain ⟨ar_1, nr_1, _, rfl, _⟩ := own_SpentList hO_r
          have HFr : Hid (∀ b, F_r b → w2_.heap.size ≤ b ∧ b < x3.heap.size) := Lib.hid (fun b h => ⟨Nat.le_trans HR.out.size (hF_r b h).1, (hF_r b h).2⟩)
          replace HO_z0 := Lib.hid (tySpentList.onext HO_z0.out hb)
          replace HO_z2 := Lib.hid (tyToken.onext HO_z2.out hb)
          replace HR := Lib.hid (HR.out.trans (hb.mono HR.out.size))
          clear hb d0
          have d0 := HSr.out _ HR.out
          have HOr := Lib.hid hO_r
          clear hO_r hF_r
          refine hK.out _ _ (Or.inr d0) ?_
          clear hK K0
          try simp only [Act.put, List.setIfInBounds_toArray, List.set_cons_zero, List.set_cons_succ]
          apply Till.take (i := 6) [6, 8, 11]
          · simp only [List.getElem?_toArray, List.getElem?_cons_succ, List.getElem?_cons_zero]
            rfl
          · kernel_rfl
          · kernel_rfl
          · kernel_rfl
          · kernel_rfl
          · exact fun _ _ _ h => h
          · first
              | exact Or.inr ⟨by rfl, rfl⟩
              | (refine Or.inl ⟨by rfl, fun wq hwq => ?_⟩
                 dsimp only at hwq
                 go_simp
                 first
                   | done
                   | rfl)
          · exact d0
          simp only [Act.put, List.setIfInBounds_toArray, List.set_cons_zero, List.set_cons_succ]
          apply Till.take (i := 7) [7, 10, 11]
          · simp only [List.getElem?_toArray, List.getElem?_cons_succ, List.getElem?_cons_zero]
            rfl
          · kernel_rfl
          · kernel_rfl
          · kernel_rfl
          · kernel_rfl
          · exact fun _ _ _ h => h
          · first
              | exact Or.inr ⟨by rfl, rfl⟩
              | (refine Or.inl ⟨by rfl, fun wq hwq => ?_⟩
                 dsimp only at hwq
                 go_simp
                 first
                   | done
                   | rfl)
          · exact d0
          simp only [Act.put, List.setIfInBounds_toArray, List.set_cons_zero, List.set_cons_succ]
          apply Till.take (i := 8) [8, 11]
          · simp only [List.getElem?_toArray, List.getElem?_cons_succ, List.getElem?_cons_zero]
            rfl
          · kernel_rfl
          · kernel_rfl
          · kernel_rfl
          · kernel_rfl
          · exact fun _ _ _ h => h
          · first
              | exact Or.inr ⟨by rfl, rfl⟩
              | (refine Or.inl ⟨by rfl, fun wq hwq => ?_⟩
                 dsimp only at hwq
                 go_simp
                 first
                   | done
                   | rfl)
          · exact d0
          simp only [Act.put, List.setIfInBounds_toArray, List.set_cons_zero, List.set_cons_succ]
          apply Till.one (i := 9)
          · kernel_rfl
          · simp only [List.getElem?_toArray, List.getElem?_cons_succ, List.getElem?_cons_zero]
            rfl
          intro K hK
          go_simp
          have hb : Below x3.heap.size x3 (x3.alloc (.cells #[.int .i64 0, .slice none 0 0] 26)) := (Below.refl _ _).alloc (Nat.le_refl _) _
          have HE0 := Lib.hid (heap_alloc_new x3 (.cells #[.int .i64 0, .slice none 0 0] 26))
          have HEl := Lib.hid HR.out.size
          replace HFr : Hid (∀ b, F_r b → (w2_.heap.size ≤ b ∧ b < (x3.alloc (.cells #[.int .i64 0, .slice none 0 0] 26)).heap.size) ∧ b ≠ x3.heap.size) := Lib.hid (fun b h => ⟨⟨(HFr.out b h).1, Nat.lt_of_lt_of_le (HFr.out b h).2 hb.size⟩, by have := (HFr.out b h).2; omega⟩)
          replace HO_z0 := Lib.hid (tySpentList.onext HO_z0.out hb)
          replace HO_z2 := Lib.hid (tyToken.onext HO_z2.out hb)
          replace HOr := Lib.hid (tySpentList.onext HOr.out hb)
          replace HR := Lib.hid (HR.out.trans (hb.mono HR.out.size))
          clear hb d0
          have d0 := HSr.out _ HR.out
          refine hK.out _ _ (Or.inr d0) ?_
          clear hK K
          try simp only [Act.put, List.setIfInBounds_toArray, List.set_cons_zero, List.set_cons_succ]
          obtain ⟨x4, hwa⟩ : ∃ x, x = x3.alloc (.cells #[.int .i64 0, .slice none 0 0] 26) := ⟨_, rfl⟩
          obtain ⟨E, hE⟩ : ∃ x, x = x3.heap.size := ⟨_, rfl⟩
          rw [← hwa] at HE0 HR d0 HO_z0 HO_z2 HOr HFr ⊢
          rw [← hE] at HE0 HEl HFr ⊢
          have HE := HE0
          clear hwa hE HE0
          obtain ⟨wz, hwz⟩ : ∃ x, x = x4 := ⟨_, rfl⟩
          rw [← hwz] at HE HR HOr HFr d0 ⊢
          clear hwz
          have q0 := (blk_cell HE.out 0).trans (cell2_0 _ _)
          have f0 := blk_free HE.out 0
          have q1 := (blk_cell HE.out 1).trans (cell2_1 _ _)
          have f1 := blk_free HE.out 1
          have s0t : (wz.setCell ⟨E, 0, none⟩ (.int .i64 Y0.1)).heap[E]? = some (.cells #[.int .i64 Y0.1, .slice none 0 0] 26 (0, 0)) := blk_set HE.out 0 (.int .i64 Y0.1)
          have s1t : ((wz.setCell ⟨E, 0, none⟩ (.int .i64 Y0.1)).setCell ⟨E, 1, none⟩ (.slice ar_1 Y0.2.length nr_1)).heap[E]? = some (.cells #[.int .i64 Y0.1, .slice ar_1 Y0.2.length nr_1] 26 (0, 0)) := blk_set s0t 1 (.slice ar_1 Y0.2.length nr_1)
          have t3 : wz.grownBy ((wz.setCell ⟨E, 0, none⟩ (.int .i64 Y0.1)).setCell ⟨E, 1, none⟩ (.slice ar_1 Y0.2.length nr_1)) (some E) := grown_trans (grown_set _ _ _ _) (grown_set _ _ _ _)
          have R9 := Lib.hid (HR.out.grown t3 HR.out.size (fun k hk => by injection hk with hk; have := HEl.out; omega))
          have O9 := Lib.hid (tySpentList.okept (G := fun b => b = E) HOr.out (KeptF.of_grown t3 (fun b h => by injection h with h; exact h.symm)) (fun b hb h => (HFr.out b hb).2 h))
          have F9 : Hid (∀ b, F_r b → (w2_.heap.size ≤ b ∧ b < ((wz.setCell ⟨E, 0, none⟩ (.int .i64 Y0.1)).setCell ⟨E, 1, none⟩ (.slice ar_1 Y0.2.length nr_1)).heap.size) ∧ b ≠ E) := Lib.hid (fun b h => ⟨⟨(HFr.out b h).1.1, Nat.lt_of_lt_of_le (HFr.out b h).1.2 t3.size⟩, (HFr.out b h).2⟩)
          have d9 := HSr.out _ R9.out
          have T9 := Lib.hid s1t
          clear t3 s0t s1t
          apply Till.one (i := 10)
          · kernel_rfl
          · simp only [List.getElem?_toArray, List.getElem?_cons_succ, List.getElem?_cons_zero]
            rfl
          intro K hK
          go_simp
          skip
          refine hK.out _ _ (Or.inr d9) ?_
          clear hK K
          try simp only [Act.put, List.setIfInBounds_toArray, List.set_cons_zero, List.set_cons_succ]
          apply Till.one (i := 11)
          · kernel_rfl
          · simp only [List.getElem?_toArray, List.getElem?_cons_succ, List.getElem?_cons_zero]
            rfl
          intro K hK
          go_simp
          skip
          refine hK.out _ _ (Or.inl (by rfl)) ?_
          clear hK K
          try simp only [Act.put, List.setIfInBounds_toArray, List.set_cons_zero, List.set_cons_succ]
          refine Till.done (by kernel_rfl) ?_ _
          clear q0 f0 q1 f1 d9
          obtain ⟨wy, hwy⟩ : ∃ x, x = ((wz.setCell ⟨E, 0, none⟩ (.int .i64 Y0.1)).setCell ⟨E, 1, none⟩ (.slice ar_1 Y0.2.length nr_1)) := ⟨_, rfl⟩
          rw [← hwy] at T9 R9 O9 F9 ⊢
          clear hwy
          go_wp2_with fail
          go_meet
          case rel => exact ⟨E, ar_1, nr_1, F_r, _, rfl, rfl, rfl, T9.out, O9.out, F9.out, HEl.out, R9.out⟩
        · intro K0 hK
          go_simp
          have hb : Below x2.heap.size x2 (x2.alloc (.cells #[.int .i64 0, .slice none 0 0] 26)) := (Below.refl _ _).alloc (Nat.le_refl _) _
          have HE0 := Lib.hid (heap_alloc_new x2 (.cells #[.int .i64 0, .slice none 0 0] 26))
          have HEl := Lib.hid HR.out.size
          replace HO_z0 := Lib.hid (tySpentList.onext HO_z0.out hb)
          replace HO_z2 := Lib.hid (tyToken.onext HO_z2.out hb)
          replace HR := Lib.hid (HR.out.trans (hb.mono HR.out.size))
          clear hb d0
          have d0 := HSr.out _ HR.out
          refine hK.out _ _ (Or.inr d0) ?_
          clear hK K0
          try simp only [Act.put, List.setIfInBounds_toArray, List.set_cons_zero, List.set_cons_succ]
          obtain ⟨x5, hwa⟩ : ∃ x, x = x2.alloc (.cells #[.int .i64 0, .slice none 0 0] 26) := ⟨_, rfl⟩
          obtain ⟨E, hE⟩ : ∃ x, x = x2.heap.size := ⟨_, rfl⟩
          rw [← hwa] at HE0 HR d0 HO_z0 HO_z2 ⊢
          rw [← hE] at HE0 HEl ⊢
          have HE := HE0
          clear hwa hE HE0
          apply Till.one (i := 5)
          · kernel_rfl
          · simp only [List.getElem?_toArray, List.getElem?_cons_succ, List.getElem?_cons_zero]
            rfl
          intro K hK
          go_simp
          refine (spec_spt_t (tySpentList.ord HO_z0.out) (Nat.le_refl _) (tyToken.ord HO_z2.out) (Nat.le_refl _) W1.out B0t.out).mono ?_
          rintro e' x6 ⟨c_r, F_r, he, hO_r, hF_r, hb⟩
          replace hO_r : tySpentList.own F_r x6 c_r ((s0.1, spL s0.1 s0.2 a1 s2.1 s2.2)) := hO_r
          rw [← HY0.out] at hO_r
          rw [← HY1.out] at he
          subst he
          obtain ⟨ar_1, nr_1, _, rfl, _⟩ := own_SpentList hO_r
          have HFr : Hid (∀ b, F_r b → (w2_.heap.size ≤ b ∧ b < x6.heap.size) ∧ b ≠ E) := Lib.hid (fun b h => ⟨⟨Nat.le_trans HR.out.size (hF_r b h).1, (hF_r b h).2⟩, by have := (hF_r b h).1; have := lt_of_block HE.out; omega⟩)
          replace HO_z0 := Lib.hid (tySpentList.onext HO_z0.out hb)
          replace HO_z2 := Lib.hid (tyToken.onext HO_z2.out hb)
          replace HE := Lib.hid ((hb.block _ (lt_of_block HE.out)).trans HE.out)
          replace HR := Lib.hid (HR.out.trans (hb.mono HR.out.size))
          clear hb d0
          have d0 := HSr.out _ HR.out
          have HOr := Lib.hid hO_r
          clear hO_r hF_r
          refine hK.out _ _ (Or.inr d0) ?_
          clear hK K
          try simp only [Act.put, List.setIfInBounds_toArray, List.set_cons_zero, List.set_cons_succ]
          apply Till.take (i := 6) [6, 8, 11]
          · simp only [List.getElem?_toArray, List.getElem?_cons_succ, List.getElem?_cons_zero]
            rfl
          · kernel_rfl
          · kernel_rfl
          · kernel_rfl
          · kernel_rfl
          · exact fun _ _ _ h => h
          · first
              | exact Or.inr ⟨by rfl, rfl⟩
              | (refine Or.inl ⟨by rfl, fun wq hwq => ?_⟩
                 dsimp only at hwq
                 go_simp
                 first
                   | done
                   | rfl)
          · exact d0
          simp only [Act.put, List.setIfInBounds_toArray, List.set_cons_zero, List.set_cons_succ]
          apply Till.take (i := 7) [7, 10, 11]
          · simp only [List.getElem?_toArray, List.getElem?_cons_succ, List.getElem?_cons_zero]
            rfl
          · kernel_rfl
          · kernel_rfl
          · kernel_rfl
          · kernel_rfl
          · exact fun _ _ _ h => h
          · first
              | exact Or.inr ⟨by rfl, rfl⟩
              | (refine Or.inl ⟨by rfl, fun wq hwq => ?_⟩
                 dsimp only at hwq
                 go_simp
                 first
                   | done
                   | rfl)
          · exact d0
          simp only [Act.put, List.setIfInBounds_toArray, List.set_cons_zero, List.set_cons_succ]
          apply Till.take (i := 8) [8, 11]
          · simp only [List.getElem?_toArray, List.getElem?_cons_succ, List.getElem?_cons_zero]
            rfl
          · kernel_rfl
          · kernel_rfl
          · kernel_rfl
          · kernel_rfl
          · exact fun _ _ _ h => h
          · first
              | exact Or.inr ⟨by rfl, rfl⟩
              | (refine Or.inl ⟨by rfl, fun wq hwq => ?_⟩
                 dsimp only at hwq
                 go_simp
                 first
                   | done
                   | rfl)
          · exact d0
          simp only [Act.put, List.setIfInBounds_toArray, List.set_cons_zero, List.set_cons_succ]
          obtain ⟨wz, hwz⟩ : ∃ x, x = x6 := ⟨_, rfl⟩
          rw [← hwz] at HE HR HOr HFr d0 ⊢
          clear hwz
          have q0 := (blk_cell HE.out 0).trans (cell2_0 _ _)
          have f0 := blk_free HE.out 0
          have q1 := (blk_cell HE.out 1).trans (cell2_1 _ _)
          have f1 := blk_free HE.out 1
          have s0t : (wz.setCell ⟨E, 0, none⟩ (.int .i64 Y0.1)).heap[E]? = some (.cells #[.int .i64 Y0.1, .slice none 0 0] 26 (0, 0)) := blk_set HE.out 0 (.int .i64 Y0.1)
          have s1t : ((wz.setCell ⟨E, 0, none⟩ (.int .i64 Y0.1)).setCell ⟨E, 1, none⟩ (.slice ar_1 Y0.2.length nr_1)).heap[E]? = some (.cells #[.int .i64 Y0.1, .slice ar_1 Y0.2.length nr_1] 26 (0, 0)) := blk_set s0t 1 (.slice ar_1 Y0.2.length nr_1)
          have t3 : wz.grownBy ((wz.setCell ⟨E, 0, none⟩ (.int .i64 Y0.1)).setCell ⟨E, 1, none⟩ (.slice ar_1 Y0.2.length nr_1)) (some E) := grown_trans (grown_set _ _ _ _) (grown_set _ _ _ _)
          have R9 := Lib.hid (HR.out.grown t3 HR.out.size (fun k hk => by injection hk with hk; have := HEl.out; omega))
          have O9 := Lib.hid (tySpentList.okept (G := fun b => b = E) HOr.out (KeptF.of_grown t3 (fun b h => by injection h with h; exact h.symm)) (fun b hb h => (HFr.out b hb).2 h))
          have F9 : Hid (∀ b, F_r b → (w2_.heap.size ≤ b ∧ b < ((wz.setCell ⟨E, 0, none⟩ (.int .i64 Y0.1)).setCell ⟨E, 1, none⟩ (.slice ar_1 Y0.2.length nr_1)).heap.size) ∧ b ≠ E) := Lib.hid (fun b h => ⟨⟨(HFr.out b h).1.1, Nat.lt_of_lt_of_le (HFr.out b h).1.2 t3.size⟩, (HFr.out b h).2⟩)
          have d9 := HSr.out _ R9.out
          have T9 := Lib.hid s1t
          clear t3 s0t s1t
          apply Till.one (i := 10)
          · kernel_rfl
          · simp only [List.getElem?_toArray, List.getElem?_cons_succ, List.getElem?_cons_zero]
            rfl
          intro K hK
          go_simp
          skip
          refine hK.out _ _ (Or.inr d9) ?_
          clear hK K
          try simp only [Act.put, List.setIfInBounds_toArray, List.set_cons_zero, List.set_cons_succ]
          apply Till.one (i := 11)
          · kernel_rfl
          · simp only [List.getElem?_toArray, List.getElem?_cons_succ, List.getElem?_cons_zero]
            rfl
          intro K hK
          go_simp
          skip
          refine hK.out _ _ (Or.inl (by rfl)) ?_
          clear hK K
          try simp only [Act.put, List.setIfInBounds_toArray, List.set_cons_zero, List.set_cons_succ]
          refine Till.done (by kernel_rfl) ?_ _
          clear q0 f0 q1 f1 d9
          obtain ⟨wy, hwy⟩ : ∃ x, x = ((wz.setCell ⟨E, 0, none⟩ (.int .i64 Y0.1)).setCell ⟨E, 1, none⟩ (.slice ar_1 Y0.2.length nr_1)) := ⟨_, rfl⟩
          rw [← hwy] at T9 R9 O9 F9 ⊢
          clear hwy
          go_wp2_with fail
          go_meet
          case rel => exact ⟨E, ar_1, nr_1, F_r, _, rfl, rfl, rfl, T9.out, O9.out, F9.out, HEl.out, R9.out⟩
      · intro K0 hK
        go_simp
        have hb : Below x1.heap.size x1 (x1.alloc (.cells #[.int .i64 0, .slice none 0 0] 26)) := (Below.refl _ _).alloc (Nat.le_refl _) _
        have HE0 := Lib.hid (heap_alloc_new x1 (.cells #[.int .i64 0, .slice none 0 0] 26))
        have HEl := Lib.hid HR.out.size
        replace HO_z0 := Lib.hid (tySpentList.onext HO_z0.out hb)
        replace HR := Lib.hid (HR.out.trans (hb.mono HR.out.size))
        clear hb d0
        have d0 := HSr.out _ HR.out
        refine hK.out _ _ (Or.inr d0) ?_
        clear hK K0
        try simp only [Act.put, List.setIfInBounds_toArray, List.set_cons_zero, List.set_cons_succ]
        obtain ⟨x7, hwa⟩ : ∃ x, x = x1.alloc (.cells #[.int .i64 0, .slice none 0 0] 26) := ⟨_, rfl⟩
        obtain ⟨E, hE⟩ : ∃ x, x = x1.heap.size := ⟨_, rfl⟩
        rw [← hwa] at HE0 HR d0 HO_z0 ⊢
        rw [← hE] at HE0 HEl ⊢
        have HE := HE0
        clear hwa hE HE0
        apply Till.one (i := 4)
        · kernel_rfl
        · simp only [List.getElem?_toArray, List.getElem?_cons_succ, List.getElem?_cons_zero]
          rfl
        intro K hK
        go_simp
        refine (toToken_any (tyToken.behind A2.out (HR.out.mono HB.out.size)) (Nat.le_trans HB.out.size HR.out.size) (show (0 : Nat) ≤ 1073741824 by decide)).mono ?_
        rintro e' x8 ⟨c_z2, he, hO_z2, hb⟩
        subst he
        obtain ⟨rfl, _⟩ := own_Token hO_z2
        replace HO_z0 := Lib.hid (tySpentList.onext HO_z0.out hb)
        replace HE := Lib.hid ((hb.block _ (lt_of_block HE.out)).trans HE.out)
        replace HR := Lib.hid (HR.out.trans (hb.mono HR.out.size))
        clear hb d0
        have d0 := HSr.out _ HR.out
        have HO_z2 := Lib.hid hO_z2
        clear hO_z2
        refine hK.out _ _ (Or.inr d0) ?_
        clear hK K
        try simp only [Act.put, List.setIfInBounds_toArray, List.set_cons_zero, List.set_cons_succ]
        apply Till.one (i := 5)
        · kernel_rfl
        · simp only [List.getElem?_toArray, List.getElem?_cons_succ, List.getElem?_cons_zero]
          rfl
        intro K hK
        go_simp
        refine (spec_spt_t (tySpentList.ord HO_z0.out) (Nat.le_refl _) (tyToken.ord HO_z2.out) (Nat.le_refl _) W1.out B0t.out).mono ?_
        rintro e' x9 ⟨c_r, F_r, he, hO_r, hF_r, hb⟩
        replace hO_r : tySpentList.own F_r x9 c_r ((s0.1, spL s0.1 s0.2 a1 s2.1 s2.2)) := hO_r
        rw [← HY0.out] at hO_r
        rw [← HY1.out] at he
        subst he
        obtain ⟨ar_1, nr_1, _, rfl, _⟩ := own_SpentList hO_r
        have HFr : Hid (∀ b, F_r b → (w2_.heap.size ≤ b ∧ b < x9.heap.size) ∧ b ≠ E) := Lib.hid (fun b h => ⟨⟨Nat.le_trans HR.out.size (hF_r b h).1, (hF_r b h).2⟩, by have := (hF_r b h).1; have := lt_of_block HE.out; omega⟩)
        replace HO_z0 := Lib.hid (tySpentList.onext HO_z0.out hb)
        replace HO_z2 := Lib.hid (tyToken.onext HO_z2.out hb)
        replace HE := Lib.hid ((hb.block _ (lt_of_block HE.out)).trans HE.out)
        replace HR := Lib.hid (HR.out.trans (hb.mono HR.out.size))
        clear hb d0
        have d0 := HSr.out _ HR.out
        have HOr := Lib.hid hO_r
        clear hO_r hF_r
        refine hK.out _ _ (Or.inr d0) ?_
        clear hK K
        try simp only [Act.put, List.setIfInBounds_toArray, List.set_cons_zero, List.set_cons_succ]
        apply Till.take (i := 6) [6, 8, 11]
        · simp only [List.getElem?_toArray, List.getElem?_cons_succ, List.getElem?_cons_zero]
          rfl
        · kernel_rfl
        · kernel_rfl
        · kernel_rfl
        · kernel_rfl
        · exact fun _ _ _ h => h
        · first
            | exact Or.inr ⟨by rfl, rfl⟩
            | (refine Or.inl ⟨by rfl, fun wq hwq => ?_⟩
               dsimp only at hwq
               go_simp
               first
                 | done
                 | rfl)
        · exact d0
        simp only [Act.put, List.setIfInBounds_toArray, List.set_cons_zero, List.set_cons_succ]
        apply Till.take (i := 7) [7, 10, 11]
        · simp only [List.getElem?_toArray, List.getElem?_cons_succ, List.getElem?_cons_zero]
          rfl
        · kernel_rfl
        · kernel_rfl
        · kernel_rfl
        · kernel_rfl
        · exact fun _ _ _ h => h
        · first
            | exact Or.inr ⟨by rfl, rfl⟩
            | (refine Or.inl ⟨by rfl, fun wq hwq => ?_⟩
               dsimp only at hwq
               go_simp
               first
                 | done
                 | rfl)
        · exact d0
        simp only [Act.put, List.setIfInBounds_toArray, List.set_cons_zero, List.set_cons_succ]
        apply Till.take (i := 8) [8, 11]
        · simp only [List.getElem?_toArray, List.getElem?_cons_succ, List.getElem?_cons_zero]
          rfl
        · kernel_rfl
        · kernel_rfl
        · kernel_rfl
        · kernel_rfl
        · exact fun _ _ _ h => h
        · first
            | exact Or.inr ⟨by rfl, rfl⟩
            | (refine Or.inl ⟨by rfl, fun wq hwq => ?_⟩
               dsimp only at hwq
               go_simp
               first
                 | done
                 | rfl)
        · exact d0
        simp only [Act.put, List.setIfInBounds_toArray, List.set_cons_zero, List.set_cons_succ]
        obtain ⟨wz, hwz⟩ : ∃ x, x = x9 := ⟨_, rfl⟩
        rw [← hwz] at HE HR HOr HFr d0 ⊢
        clear hwz
        have q0 := (blk_cell HE.out 0).trans (cell2_0 _ _)
        have f0 := blk_free HE.out 0
        have q1 := (blk_cell HE.out 1).trans (cell2_1 _ _)
        have f1 := blk_free HE.out 1
        have s0t : (wz.setCell ⟨E, 0, none⟩ (.int .i64 Y0.1)).heap[E]? = some (.cells #[.int .i64 Y0.1, .slice none 0 0] 26 (0, 0)) := blk_set HE.out 0 (.int .i64 Y0.1)
        have s1t : ((wz.setCell ⟨E, 0, none⟩ (.int .i64 Y0.1)).setCell ⟨E, 1, none⟩ (.slice ar_1 Y0.2.length nr_1)).heap[E]? = some (.cells #[.int .i64 Y0.1, .slice ar_1 Y0.2.length nr_1] 26 (0, 0)) := blk_set s0t 1 (.slice ar_1 Y0.2.length nr_1)
        have t3 : wz.grownBy ((wz.setCell ⟨E, 0, none⟩ (.int .i64 Y0.1)).setCell ⟨E, 1, none⟩ (.slice ar_1 Y0.2.length nr_1)) (some E) := grown_trans (grown_set _ _ _ _) (grown_set _ _ _ _)
        have R9 := Lib.hid (HR.out.grown t3 HR.out.size (fun k hk => by injection hk with hk; have := HEl.out; omega))
        have O9 := Lib.hid (tySpentList.okept (G := fun b => b = E) HOr.out (KeptF.of_grown t3 (fun b h => by injection h with h; exact h.symm)) (fun b hb h => (HFr.out b hb).2 h))
        have F9 : Hid (∀ b, F_r b → (w2_.heap.size ≤ b ∧ b < ((wz.setCell ⟨E, 0, none⟩ (.int .i64 Y0.1)).setCell ⟨E, 1, none⟩ (.slice ar_1 Y0.2.length nr_1)).heap.size) ∧ b ≠ E) := Lib.hid (fun b h => ⟨⟨(HFr.out b h).1.1, Nat.lt_of_lt_of_le (HFr.out b h).1.2 t3.size⟩, (HFr.out b h).2⟩)
        have d9 := HSr.out _ R9.out
        have T9 := Lib.hid s1t
        clear t3 s0t s1t
        apply Till.one (i := 10)
        · kernel_rfl
        · simp only [List.getElem?_toArray, List.getElem?_cons_succ, List.getElem?_cons_zero]
          rfl
        intro K hK
        go_simp
        skip
        refine hK.out _ _ (Or.inr d9) ?_
        clear hK K
        try simp only [Act.put, List.setIfInBounds_toArray, List.set_cons_zero, List.set_cons_succ]
        apply Till.one (i := 11)
        · kernel_rfl
        · simp only [List.getElem?_toArray, List.getElem?_cons_succ, List.getElem?_cons_zero]
          rfl
        intro K hK
        go_simp
        skip
        refine hK.out _ _ (Or.inl (by rfl)) ?_
        clear hK K
        try simp only [Act.put, List.setIfInBounds_toArray, List.set_cons_zero, List.set_cons_succ]
        refine Till.done (by kernel_rfl) ?_ _
        clear q0 f0 q1 f1 d9
        obtain ⟨wy, hwy⟩ : ∃ x, x = ((wz.setCell ⟨E, 0, none⟩ (.int .i64 Y0.1)).setCell ⟨E, 1, none⟩ (.slice ar_1 Y0.2.length nr_1)) := ⟨_, rfl⟩
        rw [← hwy] at T9 R9 O9 F9 ⊢
        clear hwy
        go_wp2_with fail
        go_meet
        case rel => exact ⟨E, ar_1, nr_1, F_r, _, rfl, rfl, rfl, T9.out, O9.out, F9.out, HEl.out, R9.out⟩
    · intro K0 hK
      go_simp
      have hb : Below wd.heap.size wd (wd.alloc (.cells #[.int .i64 0, .slice none 0 0] 26)) := (Below.refl _ _).alloc (Nat.le_refl _) _
      have HE0 := Lib.hid (heap_alloc_new wd (.cells #[.int .i64 0, .slice none 0 0] 26))
      have HEl := Lib.hid HR.out.size
      replace HR := Lib.hid (HR.out.trans (hb.mono HR.out.size))
      clear hb d0
      have d0 := HSr.out _ HR.out
      refine hK.out _ _ (Or.inr d0) ?_
      clear hK K0
      try simp only [Act.put, List.setIfInBounds_toArray, List.set_cons_zero, List.set_cons_succ]
      obtain ⟨x10, hwa⟩ : ∃ x, x = wd.alloc (.cells #[.int .i64 0, .slice none 0 0] 26) := ⟨_, rfl⟩
      obtain ⟨E, hE⟩ : ∃ x, x = wd.heap.size := ⟨_, rfl⟩
      rw [← hwa] at HE0 HR d0 ⊢
      rw [← hE] at HE0 HEl ⊢
      have HE := HE0
      clear hwa hE HE0
      apply Till.one (i := 1)
      · kernel_rfl
      · simp only [List.getElem?_toArray, List.getElem?_cons_succ, List.getElem?_cons_zero]
        rfl
      intro K hK
      go_simp
      refine (toSpentList_any (tySpentList.behind A0.out (HR.out.mono HB.out.size)) (Nat.le_trans HB.out.size HR.out.size) (Nat.le_trans B0t.out (by decide))).mono ?_
      rintro e' x11 ⟨c_z0, he, hO_z0, hb⟩
      subst he
      obtain ⟨az0_1, nz0_1, _, rfl, _⟩ := own_SpentList hO_z0
      replace HE := Lib.hid ((hb.block _ (lt_of_block HE.out)).trans HE.out)
      replace HR := Lib.hid (HR.out.trans (hb.mono HR.out.size))
      clear hb d0
      have d0 := HSr.out _ HR.out
      have HO_z0 := Lib.hid hO_z0
      clear hO_z0
      refine hK.out _ _ (Or.inr d0) ?_
      clear hK K
      try simp only [Act.put, List.setIfInBounds_toArray, List.set_cons_zero, List.set_cons_succ]
      apply Till.one (i := 4)
      · kernel_rfl
      · simp only [List.getElem?_toArray, List.getElem?_cons_succ, List.getElem?_cons_zero]
        rfl
      intro K hK
      go_simp
      refine (toToken_any (tyToken.behind A2.out (HR.out.mono HB.out.size)) (Nat.le_trans HB.out.size HR.out.size) (show (0 : Nat) ≤ 1073741824 by decide)).mono ?_
      rintro e' x12 ⟨c_z2, he, hO_z2, hb⟩
      subst he
      obtain ⟨rfl, _⟩ := own_Token hO_z2
      replace HO_z0 := Lib.hid (tySpentList.onext HO_z0.out hb)
      replace HE := Lib.hid ((hb.block _ (lt_of_block HE.out)).trans HE.out)
      replace HR := Lib.hid (HR.out.trans (hb.mono HR.out.size))
      clear hb d0
      have d0 := HSr.out _ HR.out
      have HO_z2 := Lib.hid hO_z2
      clear hO_z2
      refine hK.out _ _ (Or.inr d0) ?_
      clear hK K
      try simp only [Act.put, List.setIfInBounds_toArray, List.set_cons_zero, List.set_cons_succ]
      apply Till.one (i := 5)
      · kernel_rfl
      · simp only [List.getElem?_toArray, List.getElem?_cons_succ, List.getElem?_cons_zero]
        rfl
      intro K hK
      go_simp
      refine (spec_spt_t (tySpentList.ord HO_z0.out) (Nat.le_refl _) (tyToken.ord HO_z2.out) (Nat.le_refl _) W1.out B0t.out).mono ?_
      rintro e' x13 ⟨c_r, F_r, he, hO_r, hF_r, hb⟩
      replace hO_r : tySpentList.own F_r x13 c_r ((s0.1, spL s0.1 s0.2 a1 s2.1 s2.2)) := hO_r
      rw [← HY0.out] at hO_r
      rw [← HY1.out] at he
      subst he
      obtain ⟨ar_1, nr_1, _, rfl, _⟩ := own_SpentList hO_r
      have HFr : Hid (∀ b, F_r b → (w2_.heap.size ≤ b ∧ b < x13.heap.size) ∧ b ≠ E) := Lib.hid (fun b h => ⟨⟨Nat.le_trans HR.out.size (hF_r b h).1, (hF_r b h).2⟩, by have := (hF_r b h).1; have := lt_of_block HE.out; omega⟩)
      replace HO_z0 := Lib.hid (tySpentList.onext HO_z0.out hb)
      replace HO_z2 := Lib.hid (tyToken.onext HO_z2.out hb)
      replace HE := Lib.hid ((hb.block _ (lt_of_block HE.out)).trans HE.out)
      replace HR := Lib.hid (HR.out.trans (hb.mono HR.out.size))
      clear hb d0
      have d0 := HSr.out _ HR.out
      have HOr := Lib.hid hO_r
      clear hO_r hF_r
      refine hK.out _ _ (Or.inr d0) ?_
      clear hK K
      try simp only [Act.put, List.setIfInBounds_toArray, List.set_cons_zero, List.set_cons_succ]
      apply Till.take (i := 6) [6, 8, 11]
      · simp only [List.getElem?_toArray, List.getElem?_cons_succ, List.getElem?_cons_zero]
        rfl
      · kernel_rfl
      · kernel_rfl
      · kernel_rfl
      · kernel_rfl
      · exact fun _ _ _ h => h
      · first
          | exact Or.inr ⟨by rfl, rfl⟩
          | (refine Or.inl ⟨by rfl, fun wq hwq => ?_⟩
             dsimp only at hwq
             go_simp
             first
               | done
               | rfl)
      · exact d0
      simp only [Act.put, List.setIfInBounds_toArray, List.set_cons_zero, List.set_cons_succ]
      apply Till.take (i := 7) [7, 10, 11]
      · simp only [List.getElem?_toArray, List.getElem?_cons_succ, List.getElem?_cons_zero]
        rfl
      · kernel_rfl
      · kernel_rfl
      · kernel_rfl
      · kernel_rfl
      · exact fun _ _ _ h => h
      · first
          | exact Or.inr ⟨by rfl, rfl⟩
          | (refine Or.inl ⟨by rfl, fun wq hwq => ?_⟩
             dsimp only at hwq
             go_simp
             first
               | done
               | rfl)
      · exact d0
      simp only [Act.put, List.setIfInBounds_toArray, List.set_cons_zero, List.set_cons_succ]
      apply Till.take (i := 8) [8, 11]
      · simp only [List.getElem?_toArray, List.getElem?_cons_succ, List.getElem?_cons_zero]
        rfl
      · kernel_rfl
      · kernel_rfl
      · kernel_rfl
      · kernel_rfl
      · exact fun _ _ _ h => h
      · first
          | exact Or.inr ⟨by rfl, rfl⟩
          | (refine Or.inl ⟨by rfl, fun wq hwq => ?_⟩
             dsimp only at hwq
             go_simp
             first
               | done
               | rfl)
      · exact d0
      simp only [Act.put, List.setIfInBounds_toArray, List.set_cons_zero, List.set_cons_succ]
      obtain ⟨wz, hwz⟩ : ∃ x, x = x13 := ⟨_, rfl⟩
      rw [← hwz] at HE HR HOr HFr d0 ⊢
      clear hwz
      have q0 := (blk_cell HE.out 0).trans (cell2_0 _ _)
      have f0 := blk_free HE.out 0
      have q1 := (blk_cell HE.out 1).trans (cell2_1 _ _)
      have f1 := blk_free HE.out 1
      have s0t : (wz.setCell ⟨E, 0, none⟩ (.int .i64 Y0.1)).heap[E]? = some (.cells #[.int .i64 Y0.1, .slice none 0 0] 26 (0, 0)) := blk_set HE.out 0 (.int .i64 Y0.1)
      have s1t : ((wz.setCell ⟨E, 0, none⟩ (.int .i64 Y0.1)).setCell ⟨E, 1, none⟩ (.slice ar_1 Y0.2.length nr_1)).heap[E]? = some (.cells #[.int .i64 Y0.1, .slice ar_1 Y0.2.length nr_1] 26 (0, 0)) := blk_set s0t 1 (.slice ar_1 Y0.2.length nr_1)
      have t3 : wz.grownBy ((wz.setCell ⟨E, 0, none⟩ (.int .i64 Y0.1)).setCell ⟨E, 1, none⟩ (.slice ar_1 Y0.2.length nr_1)) (some E) := grown_trans (grown_set _ _ _ _) (grown_set _ _ _ _)
      have R9 := Lib.hid (HR.out.grown t3 HR.out.size (fun k hk => by injection hk with hk; have := HEl.out; omega))
      have O9 := Lib.hid (tySpentList.okept (G := fun b => b = E) HOr.out (KeptF.of_grown t3 (fun b h => by injection h with h; exact h.symm)) (fun b hb h => (HFr.out b hb).2 h))
      have F9 : Hid (∀ b, F_r b → (w2_.heap.size ≤ b ∧ b < ((wz.setCell ⟨E, 0, none⟩ (.int .i64 Y0.1)).setCell ⟨E, 1, none⟩ (.slice ar_1 Y0.2.length nr_1)).heap.size) ∧ b ≠ E) := Lib.hid (fun b h => ⟨⟨(HFr.out b h).1.1, Nat.lt_of_lt_of_le (HFr.out b h).1.2 t3.size⟩, (HFr.out b h).2⟩)
      have d9 := HSr.out _ R9.out
      have T9 := Lib.hid s1t
      clear t3 s0t s1t
      apply Till.one (i := 10)
      · kernel_rfl
      · simp only [List.getElem?_toArray, List.getElem?_cons_succ, List.getElem?_cons_zero]
        rfl
      intro K hK
      go_simp
      skip
      refine hK.out _ _ (Or.inr d9) ?_
      clear hK K
      try simp only [Act.put, List.setIfInBounds_toArray, List.set_cons_zero, List.set_cons_succ]
      apply Till.one (i := 11)
      · kernel_rfl
      · simp only [List.getElem?_toArray, List.getElem?_cons_succ, List.getElem?_cons_zero]
        rfl
      intro K hK
      go_simp
      skip
      refine hK.out _ _ (Or.inl (by rfl)) ?_
      clear hK K
      try simp only [Act.put, List.setIfInBounds_toArray, List.set_cons_zero, List.set_cons_succ]
      refine Till.done (by kernel_rfl) ?_ _
      clear q0 f0 q1 f1 d9
      obtain ⟨wy, hwy⟩ : ∃ x, x = ((wz.setCell ⟨E, 0, none⟩ (.int .i64 Y0.1)).setCell ⟨E, 1, none⟩ (.slice ar_1 Y0.2.length nr_1)) := ⟨_, rfl⟩
      rw [← hwy] at T9 R9 O9 F9 ⊢
      clear hwy
      go_wp2_with fail
      go_meet
      case rel => exact ⟨E, ar_1, nr_1, F_r, _, rfl, rfl, rfl, T9.out, O9.out, F9.out, HEl.out, R9.out⟩
  case rest =>
    obtain ⟨Q_w0, aw0_1, nw0_1, F_w0, w3_, hww, rfl, rfl, hK, hO_w0, hF2_w0, hEl, hb⟩ := hcut
    subst hww
    have hF_w0 := fun b h => (hF2_w0 b h).1
    have D_w0 : Hid (∀ b, F_w0 b → w.heap.size ≤ b) := Lib.hid (fun b h => Nat.le_trans HB.out.size (hF_w0 b h).1)
    replace A0 := Lib.hid (tySpentList.behind A0.out (hb.mono HB.out.size))
    replace A2 := Lib.hid (tyToken.behind A2.out (hb.mono HB.out.size))
    replace K_p0 := Lib.hid ((hb.block _ (lt_of_block K_p0.out)).trans K_p0.out)
    replace K_p2 := Lib.hid ((hb.block _ (lt_of_block K_p2.out)).trans K_p2.out)
    replace HB := Lib.hid (HB.out.trans (hb.mono HB.out.size))
    clear hb
    have O_w0 := Lib.hid hO_w0
    have E_w0 : Hid (∀ b, F_w0 b → b < w3_.heap.size) := Lib.hid (fun b h => (hF_w0 b h).2)
    have K_w0 := Lib.hid hK
    clear hO_w0 hF_w0 hF2_w0 hK hEl
    -- ('copy', 'x0', 0, 'SpentList')
    have k_p0_0 := blk_cell K_p0.out 0
    rw [cell2_0] at k_p0_0
    have k_p0_1 := blk_cell K_p0.out 1
    rw [cell2_1] at k_p0_1
    have k_p2_0 := blk_cell K_p2.out 0
    rw [cell2_0] at k_p2_0
    have k_p2_1 := blk_cell K_p2.out 1
    rw [cell2_1] at k_p2_1
    have k_w0_0 := blk_cell K_w0.out 0
    rw [cell2_0] at k_w0_0
    have k_w0_1 := blk_cell K_w0.out 1
    rw [cell2_1] at k_w0_1
    go_wp2_with fail
    clear k_p0_0 k_p0_1 k_p2_0 k_p2_1 k_w0_0 k_w0_1
    refine (toSpentList_any A0.out HB.out.size (Nat.le_trans B0t.out (by decide))).mono ?_
    rintro e w4_ ⟨c_x0, he, hO_x0, hb⟩
    subst he
    have hF_x0 : ∀ b, (ival w3_.heap.size w4_.heap.size) b → w3_.heap.size ≤ b ∧ b < w4_.heap.size := fun b h => h
    obtain ⟨ax0_1, nx0_1, _, rfl, _⟩ := own_SpentList hO_x0
    have X_w0_x0 : Hid (∀ b, F_w0 b → ¬ (ival w3_.heap.size w4_.heap.size) b) := Lib.hid (fun b h1 h2 => by have := E_w0.out b h1; have := (hF_x0 b h2).1; omega)
    have N_p0_x0 : Hid (¬ (ival w3_.heap.size w4_.heap.size) (w.heap.size)) := Lib.hid (fun h => by have := (hF_x0 _ h).1; have := lt_of_block K_p0.out; omega)
    have N_p2_x0 : Hid (¬ (ival w3_.heap.size w4_.heap.size) (w.heap.size + 1)) := Lib.hid (fun h => by have := (hF_x0 _ h).1; have := lt_of_block K_p2.out; omega)
    have N_w0_x0 : Hid (¬ (ival w3_.heap.size w4_.heap.size) (Q_w0)) := Lib.hid (fun h => by have := (hF_x0 _ h).1; have := lt_of_block K_w0.out; omega)
    have D_x0 : Hid (∀ b, (ival w3_.heap.size w4_.heap.size) b → w.heap.size ≤ b) := Lib.hid (fun b h => Nat.le_trans HB.out.size (hF_x0 b h).1)
    replace A0 := Lib.hid (tySpentList.behind A0.out (hb.mono HB.out.size))
    replace A2 := Lib.hid (tyToken.behind A2.out (hb.mono HB.out.size))
    replace O_w0 := Lib.hid (tySpentList.onext O_w0.out hb)
    replace E_w0 : Hid (∀ b, F_w0 b → b < w4_.heap.size) := Lib.hid (fun b h => Nat.lt_of_lt_of_le (E_w0.out b h) hb.size)
    replace K_p0 := Lib.hid ((hb.block _ (lt_of_block K_p0.out)).trans K_p0.out)
    replace K_p2 := Lib.hid ((hb.block _ (lt_of_block K_p2.out)).trans K_p2.out)
    replace K_w0 := Lib.hid ((hb.block _ (lt_of_block K_w0.out)).trans K_w0.out)
    replace HB := Lib.hid (HB.out.trans (hb.mono HB.out.size))
    clear hb
    have O_x0 := Lib.hid hO_x0
    have E_x0 : Hid (∀ b, (ival w3_.heap.size w4_.heap.size) b → b < w4_.heap.size) := Lib.hid (fun b h => (hF_x0 b h).2)
    clear hO_x0 hF_x0
    have hb : Below w4_.heap.size w4_ (w4_.alloc (.cells #[.int .i64 s0.1, .slice ax0_1 s0.2.length nx0_1] 26)) := (Below.refl _ _).alloc (Nat.le_refl _) _
    have N_x0_x0 : Hid (¬ (ival w3_.heap.size w4_.heap.size) w4_.heap.size) := Lib.hid (fun h => by have := E_x0.out _ h; omega)
    replace A0 := Lib.hid (tySpentList.behind A0.out (hb.mono HB.out.size))
    replace A2 := Lib.hid (tyToken.behind A2.out (hb.mono HB.out.size))
    replace O_w0 := Lib.hid (tySpentList.onext O_w0.out hb)
    replace E_w0 : Hid (∀ b, F_w0 b → b < (w4_.alloc (.cells #[.int .i64 s0.1, .slice ax0_1 s0.2.length nx0_1] 26)).heap.size) := Lib.hid (fun b h => Nat.lt_of_lt_of_le (E_w0.out b h) hb.size)
    replace O_x0 := Lib.hid (tySpentList.onext O_x0.out hb)
    replace E_x0 : Hid (∀ b, (ival w3_.heap.size w4_.heap.size) b → b < (w4_.alloc (.cells #[.int .i64 s0.1, .slice ax0_1 s0.2.length nx0_1] 26)).heap.size) := Lib.hid (fun b h => Nat.lt_of_lt_of_le (E_x0.out b h) hb.size)
    replace K_p0 := Lib.hid ((hb.block _ (lt_of_block K_p0.out)).trans K_p0.out)
    replace K_p2 := Lib.hid ((hb.block _ (lt_of_block K_p2.out)).trans K_p2.out)
    replace K_w0 := Lib.hid ((hb.block _ (lt_of_block K_w0.out)).trans K_w0.out)
    replace HB := Lib.hid (HB.out.trans (hb.mono HB.out.size))
    clear hb
    have K_x0 := Lib.hid (heap_alloc_new w4_ (.cells #[.int .i64 s0.1, .slice ax0_1 s0.2.length nx0_1] 26))
    have k_p0_0 := blk_cell K_p0.out 0
    rw [cell2_0] at k_p0_0
    have k_p0_1 := blk_cell K_p0.out 1
    rw [cell2_1] at k_p0_1
    have k_p2_0 := blk_cell K_p2.out 0
    rw [cell2_0] at k_p2_0
    have k_p2_1 := blk_cell K_p2.out 1
    rw [cell2_1] at k_p2_1
    have k_w0_0 := blk_cell K_w0.out 0
    rw [cell2_0] at k_w0_0
    have k_w0_1 := blk_cell K_w0.out 1
    rw [cell2_1] at k_w0_1
    have k_x0_0 := blk_cell K_x0.out 0
    rw [cell2_0] at k_x0_0
    have k_x0_1 := blk_cell K_x0.out 1
    rw [cell2_1] at k_x0_1
    go_wp2_with fail
    clear k_p0_0 k_p0_1 k_p2_0 k_p2_1 k_w0_0 k_w0_1 k_x0_0 k_x0_1
    obtain ⟨w5_, hw⟩ : ∃ x, x = w4_.alloc (.cells #[.int .i64 s0.1, .slice ax0_1 s0.2.length nx0_1] 26) := ⟨_, rfl⟩
    rw [← hw] at HB A0 A2 O_w0 E_w0 O_x0 E_x0 K_p0 K_p2 K_w0 K_x0 ⊢
    clear hw
    -- ('call', 'impl', 'SpendToken', [('own', 'x0'), ('arg', 1), ('copy', 2, 'Token')], ['g0', 'g1'])
    go_cut [11, 12] (fun p0 p1 wx => ∃ (E : Nat) (ar_1 : Option Addr) (nr_1 : Nat) (F : Nat → Prop) (WW : World), WW = wx ∧ p0 = .pointer (some ⟨E, 0, none⟩) ∧ p1 = .int .i64 Y1 ∧ wx.heap[E]? = some (.cells #[.int .i64 Y0.1, .slice ar_1 Y0.2.length nr_1] 26 (0, 0)) ∧ tySpentList.own F wx [.int .i64 Y0.1, .slice ar_1 Y0.2.length nr_1] Y0 ∧ (∀ b, F b → (w5_.heap.size ≤ b ∧ b < wx.heap.size) ∧ b ≠ E) ∧ w5_.heap.size ≤ E ∧ Below w5_.heap.size w5_ wx)
    case first =>
      refine region_till (fun x => x.cell? ⟨w4_.heap.size, 0, none⟩ = some (.int .i64 s0.1) ∧ x.cell? ⟨w4_.heap.size, 1, none⟩ = some (.slice ax0_1 s0.2.length nx0_1) ∧ x.cell? ⟨w.heap.size + 1, 0, none⟩ = some (.int .i64 s2.1) ∧ x.cell? ⟨w.heap.size + 1, 1, none⟩ = some (.int .i64 s2.2)) 10 (by kernel_rfl) ?_
      obtain ⟨wd, hwd⟩ : ∃ x, x = w5_.drew := ⟨_, rfl⟩
      have HR : Hid (Below w5_.heap.size w5_ wd) := Lib.hid (by rw [hwd]; exact (Below.refl _ _).drew)
      have HSr : Hid (∀ x, Below w5_.heap.size w5_ x → (x.cell? ⟨w4_.heap.size, 0, none⟩ = some (.int .i64 s0.1) ∧ x.cell? ⟨w4_.heap.size, 1, none⟩ = some (.slice ax0_1 s0.2.length nx0_1) ∧ x.cell? ⟨w.heap.size + 1, 0, none⟩ = some (.int .i64 s2.1) ∧ x.cell? ⟨w.heap.size + 1, 1, none⟩ = some (.int .i64 s2.2))) := Lib.hid (fun x hx => ⟨(blk_cell ((hx.block _ (lt_of_block K_x0.out)).trans K_x0.out) 0).trans (cell2_0 _ _), (blk_cell ((hx.block _ (lt_of_block K_x0.out)).trans K_x0.out) 1).trans (cell2_1 _ _), (blk_cell ((hx.block _ (lt_of_block K_p2.out)).trans K_p2.out) 0).trans (cell2_0 _ _), (blk_cell ((hx.block _ (lt_of_block K_p2.out)).trans K_p2.out) 1).trans (cell2_1 _ _)⟩)
      have d0 := HSr.out _ HR.out
      rw [← hwd]
      clear hwd
      apply Till.take (i := 0) [0, 4, 5, 7, 10]
      · simp only [List.getElem?_toArray, List.getElem?_cons_zero]
        rfl
      · kernel_rfl
      · kernel_rfl
      · kernel_rfl
      · kernel_rfl
      · exact fun _ _ _ h => h
      · first
          | exact Or.inr ⟨by rfl, rfl⟩
          | (refine Or.inl ⟨by rfl, fun wq hwq => ?_⟩
             dsimp only at hwq
             go_simp
             first
               | done
               | rfl)
      · exact d0
      simp only [Act.put, List.setIfInBounds_toArray, List.set_cons_zero, List.set_cons_succ]
      apply Till.take (i := 1) [1, 4, 5, 7, 10]
      · simp only [List.getElem?_toArray, List.getElem?_cons_succ, List.getElem?_cons_zero]
        rfl
      · kernel_rfl
      · kernel_rfl
      · kernel_rfl
      · kernel_rfl
      · exact fun _ _ _ h => h
      · first
          | exact Or.inr ⟨by rfl, rfl⟩
          | (refine Or.inl ⟨by rfl, fun wq hwq => ?_⟩
             dsimp only at hwq
             go_simp
             first
               | done
               | rfl)
      · exact d0
      simp only [Act.put, List.setIfInBounds_toArray, List.set_cons_zero, List.set_cons_succ]
      apply Till.take (i := 2) [2, 3, 4, 5, 7, 10]
      · simp only [List.getElem?_toArray, List.getElem?_cons_succ, List.getElem?_cons_zero]
        rfl
      · kernel_rfl
      · kernel_rfl
      · kernel_rfl
      · kernel_rfl
      · exact fun _ _ _ h => h
      · first
          | exact Or.inr ⟨by rfl, rfl⟩
          | (refine Or.inl ⟨by rfl, fun wq hwq => ?_⟩
             dsimp only at hwq
             go_simp
             first
               | done
               | rfl)
      · exact d0
      simp only [Act.put, List.setIfInBounds_toArray, List.set_cons_zero, List.set_cons_succ]
      apply Till.two (i := 3) (j := 8)
      · kernel_rfl
      · simp only [List.getElem?_toArray, List.getElem?_cons_succ, List.getElem?_cons_zero]
        rfl
      · simp only [List.getElem?_toArray, List.getElem?_cons_succ, List.getElem?_cons_zero]
        rfl
      · intro K0 hK
        go_simp
        refine (toToken_any (tyToken.behind A2.out (HR.out.mono HB.out.size)) (Nat.le_trans HB.out.size HR.out.size) (show (0 : Nat) ≤ 1073741824 by decide)).mono ?_
        rintro e' x1 ⟨c_z2, he, hO_z2, hb⟩
        subst he
        obtain ⟨rfl, _⟩ := own_Token hO_z2
        replace HR := Lib.hid (HR.out.trans (hb.mono HR.out.size))
        clear hb d0
        have d0 := HSr.out _ HR.out
        have HO_z2 := Lib.hid hO_z2
        clear hO_z2
        refine hK.out _ _ (Or.inr d0) ?_
        clear hK K0
        try simp only [Act.put, List.setIfInBounds_toArray, List.set_cons_zero, List.set_cons_succ]
        apply Till.two (i := 4) (j := 8)
        · kernel_rfl
        · simp only [List.getElem?_toArray, List.getElem?_cons_succ, List.getElem?_cons_zero]
          rfl
        · simp only [List.getElem?_toArray, List.getElem?_cons_succ, List.getElem?_cons_zero]
          rfl
        · intro K0 hK
          go_simp
          refine (impl_spt_t (tySpentList.ord (tySpentList.onext O_x0.out HR.out)) (Nat.le_refl _) (tyToken.ord HO_z2.out) (Nat.le_refl _) W1.out B0t.out).mono ?_
          rintro e' x2 ⟨c_r, F_r, he, hO_r, hF_r, hb⟩
          replace hO_r : tySpentList.own F_r x2 c_r ((s0.1, spL s0.1 s0.2 a1 s2.1 s2.2)) := hO_r
          rw [← HY0.out] at hO_r
          rw [← HY1.out] at he
          subst he
          obtain ⟨ar_1, nr_1, _, rfl, _⟩ := own_SpentList hO_r
          have HFr : Hid (∀ b, F_r b → w5_.heap.size ≤ b ∧ b < x2.heap.size) := Lib.hid (fun b h => ⟨Nat.le_trans HR.out.size (hF_r b h).1, (hF_r b h).2⟩)
          replace HO_z2 := Lib.hid (tyToken.onext HO_z2.out hb)
          replace HR := Lib.hid (HR.out.trans (hb.mono HR.out.size))
          clear hb d0
          have d0 := HSr.out _ HR.out
          have HOr := Lib.hid hO_r
          clear hO_r hF_r
          refine hK.out _ _ (Or.inr d0) ?_
          clear hK K0
          try simp only [Act.put, List.setIfInBounds_toArray, List.set_cons_zero, List.set_cons_succ]
          apply Till.take (i := 5) [5, 7, 10]
          · simp only [List.getElem?_toArray, List.getElem?_cons_succ, List.getElem?_cons_zero]
            rfl
          · kernel_rfl
          · kernel_rfl
          · kernel_rfl
          · kernel_rfl
          · exact fun _ _ _ h => h
          · first
              | exact Or.inr ⟨by rfl, rfl⟩
              | (refine Or.inl ⟨by rfl, fun wq hwq => ?_⟩
                 dsimp only at hwq
                 go_simp
                 first
                   | done
                   | rfl)
          · exact d0
          simp only [Act.put, List.setIfInBounds_toArray, List.set_cons_zero, List.set_cons_succ]
          apply Till.take (i := 6) [6, 9, 10]
          · simp only [List.getElem?_toArray, List.getElem?_cons_succ, List.getElem?_cons_zero]
            rfl
          · kernel_rfl
          · kernel_rfl
          · kernel_rfl
          · kernel_rfl
          · exact fun _ _ _ h => h
          · first
              | exact Or.inr ⟨by rfl, rfl⟩
              | (refine Or.inl ⟨by rfl, fun wq hwq => ?_⟩
                 dsimp only at hwq
                 go_simp
                 first
                   | done
                   | rfl)
          · exact d0
          simp only [Act.put, List.setIfInBounds_toArray, List.set_cons_zero, List.set_cons_succ]
          apply Till.take (i := 7) [7, 10]
          · simp only [List.getElem?_toArray, List.getElem?_cons_succ, List.getElem?_cons_zero]
            rfl
          · kernel_rfl
          · kernel_rfl
          · kernel_rfl
          · kernel_rfl
          · exact fun _ _ _ h => h
          · first
              | exact Or.inr ⟨by rfl, rfl⟩
              | (refine Or.inl ⟨by rfl, fun wq hwq => ?_⟩
                 dsimp only at hwq
                 go_simp
                 first
                   | done
                   | rfl)
          · exact d0
          simp only [Act.put, List.setIfInBounds_toArray, List.set_cons_zero, List.set_cons_succ]
          apply Till.one (i := 8)
          · kernel_rfl
          · simp only [List.getElem?_toArray, List.getElem?_cons_succ, List.getElem?_cons_zero]
            rfl
          intro K hK
          go_simp
          have hb : Below x2.heap.size x2 (x2.alloc (.cells #[.int .i64 0, .slice none 0 0] 26)) := (Below.refl _ _).alloc (Nat.le_refl _) _
          have HE0 := Lib.hid (heap_alloc_new x2 (.cells #[.int .i64 0, .slice none 0 0] 26))
          have HEl := Lib.hid HR.out.size
          replace HFr : Hid (∀ b, F_r b → (w5_.heap.size ≤ b ∧ b < (x2.alloc (.cells #[.int .i64 0, .slice none 0 0] 26)).heap.size) ∧ b ≠ x2.heap.size) := Lib.hid (fun b h => ⟨⟨(HFr.out b h).1, Nat.lt_of_lt_of_le (HFr.out b h).2 hb.size⟩, by have := (HFr.out b h).2; omega⟩)
          replace HO_z2 := Lib.hid (tyToken.onext HO_z2.out hb)
          replace HOr := Lib.hid (tySpentList.onext HOr.out hb)
          replace HR := Lib.hid (HR.out.trans (hb.mono HR.out.size))
          clear hb d0
          have d0 := HSr.out _ HR.out
          refine hK.out _ _ (Or.inr d0) ?_
          clear hK K
          try simp only [Act.put, List.setIfInBounds_toArray, List.set_cons_zero, List.set_cons_succ]
          obtain ⟨x3, hwa⟩ : ∃ x, x = x2.alloc (.cells #[.int .i64 0, .slice none 0 0] 26) := ⟨_, rfl⟩
          obtain ⟨E, hE⟩ : ∃ x, x = x2.heap.size := ⟨_, rfl⟩
          rw [← hwa] at HE0 HR d0 HO_z2 HOr HFr ⊢
          rw [← hE] at HE0 HEl HFr ⊢
          have HE := HE0
          clear hwa hE HE0
          obtain ⟨wz, hwz⟩ : ∃ x, x = x3 := ⟨_, rfl⟩
          rw [← hwz] at HE HR HOr HFr d0 ⊢
          clear hwz
          have q0 := (blk_cell HE.out 0).trans (cell2_0 _ _)
          have f0 := blk_free HE.out 0
          have q1 := (blk_cell HE.out 1).trans (cell2_1 _ _)
          have f1 := blk_free HE.out 1
          have s0t : (wz.setCell ⟨E, 0, none⟩ (.int .i64 Y0.1)).heap[E]? = some (.cells #[.int .i64 Y0.1, .slice none 0 0] 26 (0, 0)) := blk_set HE.out 0 (.int .i64 Y0.1)
          have s1t : ((wz.setCell ⟨E, 0, none⟩ (.int .i64 Y0.1)).setCell ⟨E, 1, none⟩ (.slice ar_1 Y0.2.length nr_1)).heap[E]? = some (.cells #[.int .i64 Y0.1, .slice ar_1 Y0.2.length nr_1] 26 (0, 0)) := blk_set s0t 1 (.slice ar_1 Y0.2.length nr_1)
          have t3 : wz.grownBy ((wz.setCell ⟨E, 0, none⟩ (.int .i64 Y0.1)).setCell ⟨E, 1, none⟩ (.slice ar_1 Y0.2.length nr_1)) (some E) := grown_trans (grown_set _ _ _ _) (grown_set _ _ _ _)
          have R9 := Lib.hid (HR.out.grown t3 HR.out.size (fun k hk => by injection hk with hk; have := HEl.out; omega))
          have O9 := Lib.hid (tySpentList.okept (G := fun b => b = E) HOr.out (KeptF.of_grown t3 (fun b h => by injection h with h; exact h.symm)) (fun b hb h => (HFr.out b hb).2 h))
          have F9 : Hid (∀ b, F_r b → (w5_.heap.size ≤ b ∧ b < ((wz.setCell ⟨E, 0, none⟩ (.int .i64 Y0.1)).setCell ⟨E, 1, none⟩ (.slice ar_1 Y0.2.length nr_1)).heap.size) ∧ b ≠ E) := Lib.hid (fun b h => ⟨⟨(HFr.out b h).1.1, Nat.lt_of_lt_of_le (HFr.out b h).1.2 t3.size⟩, (HFr.out b h).2⟩)
          have d9 := HSr.out _ R9.out
          have T9 := Lib.hid s1t
          clear t3 s0t s1t
          apply Till.one (i := 9)
          · kernel_rfl
          · simp only [List.getElem?_toArray, List.getElem?_cons_succ, List.getElem?_cons_zero]
            rfl
          intro K hK
          go_simp
          skip
          refine hK.out _ _ (Or.inr d9) ?_
          clear hK K
          try simp only [Act.put, List.setIfInBounds_toArray, List.set_cons_zero, List.set_cons_succ]
          apply Till.one (i := 10)
          · kernel_rfl
          · simp only [List.getElem?_toArray, List.getElem?_cons_succ, List.getElem?_cons_zero]
            rfl
          intro K hK
          go_simp
          skip
          refine hK.out _ _ (Or.inl (by rfl)) ?_
          clear hK K
          try simp only [Act.put, List.setIfInBounds_toArray, List.set_cons_zero, List.set_cons_succ]
          refine Till.done (by kernel_rfl) ?_ _
          clear q0 f0 q1 f1 d9
          obtain ⟨wy, hwy⟩ : ∃ x, x = ((wz.setCell ⟨E, 0, none⟩ (.int .i64 Y0.1)).setCell ⟨E, 1, none⟩ (.slice ar_1 Y0.2.length nr_1)) := ⟨_, rfl⟩
          rw [← hwy] at T9 R9 O9 F9 ⊢
          clear hwy
          go_wp2_with fail
          go_meet
          case rel => exact ⟨E, ar_1, nr_1, F_r, _, rfl, rfl, rfl, T9.out, O9.out, F9.out, HEl.out, R9.out⟩
        · intro K0 hK
          go_simp
          have hb : Below x1.heap.size x1 (x1.alloc (.cells #[.int .i64 0, .slice none 0 0] 26)) := (Below.refl _ _).alloc (Nat.le_refl _) _
          have HE0 := Lib.hid (heap_alloc_new x1 (.cells #[.int .i64 0, .slice none 0 0] 26))
          have HEl := Lib.hid HR.out.size
          replace HO_z2 := Lib.hid (tyToken.onext HO_z2.out hb)
          replace HR := Lib.hid (HR.out.trans (hb.mono HR.out.size))
          clear hb d0
          have d0 := HSr.out _ HR.out
          refine hK.out _ _ (Or.inr d0) ?_
          clear hK K0
          try simp only [Act.put, List.setIfInBounds_toArray, List.set_cons_zero, List.set_cons_succ]
          obtain ⟨x4, hwa⟩ : ∃ x, x = x1.alloc (.cells #[.int .i64 0, .slice none 0 0] 26) := ⟨_, rfl⟩
          obtain ⟨E, hE⟩ : ∃ x, x = x1.heap.size := ⟨_, rfl⟩
          rw [← hwa] at HE0 HR d0 HO_z2 ⊢
          rw [← hE] at HE0 HEl ⊢
          have HE := HE0
          clear hwa hE HE0
          apply Till.one (i := 4)
          · kernel_rfl
          · simp only [List.getElem?_toArray, List.getElem?_cons_succ, List.getElem?_cons_zero]
            rfl
          intro K hK
          go_simp
          refine (impl_spt_t (tySpentList.ord (tySpentList.onext O_x0.out HR.out)) (Nat.le_refl _) (tyToken.ord HO_z2.out) (Nat.le_refl _) W1.out B0t.out).mono ?_
          rintro e' x5 ⟨c_r, F_r, he, hO_r, hF_r, hb⟩
          replace hO_r : tySpentList.own F_r x5 c_r ((s0.1, spL s0.1 s0.2 a1 s2.1 s2.2)) := hO_r
          rw [← HY0.out] at hO_r
          rw [← HY1.out] at he
          subst he
          obtain ⟨ar_1, nr_1, _, rfl, _⟩ := own_SpentList hO_r
          have HFr : Hid (∀ b, F_r b → (w5_.heap.size ≤ b ∧ b < x5.heap.size) ∧ b ≠ E) := Lib.hid (fun b h => ⟨⟨Nat.le_trans HR.out.size (hF_r b h).1, (hF_r b h).2⟩, by have := (hF_r b h).1; have := lt_of_block HE.out; omega⟩)
          replace HO_z2 := Lib.hid (tyToken.onext HO_z2.out hb)
          replace HE := Lib.hid ((hb.block _ (lt_of_block HE.out)).trans HE.out)
          replace HR := Lib.hid (HR.out.trans (hb.mono HR.out.size))
          clear hb d0
          have d0 := HSr.out _ HR.out
          have HOr := Lib.hid hO_r
          clear hO_r hF_r
          refine hK.out _ _ (Or.inr d0) ?_
          clear hK K
          try simp only [Act.put, List.setIfInBounds_toArray, List.set_cons_zero, List.set_cons_succ]
          apply Till.take (i := 5) [5, 7, 10]
          · simp only [List.getElem?_toArray, List.getElem?_cons_succ, List.getElem?_cons_zero]
            rfl
          · kernel_rfl
          · kernel_rfl
          · kernel_rfl
          · kernel_rfl
          · exact fun _ _ _ h => h
          · first
              | exact Or.inr ⟨by rfl, rfl⟩
              | (refine Or.inl ⟨by rfl, fun wq hwq => ?_⟩
                 dsimp only at hwq
                 go_simp
                 first
                   | done
                   | rfl)
          · exact d0
          simp only [Act.put, List.setIfInBounds_toArray, List.set_cons_zero, List.set_cons_succ]
          apply Till.take (i := 6) [6, 9, 10]
          · simp only [List.getElem?_toArray, List.getElem?_cons_succ, List.getElem?_cons_zero]
            rfl
          · kernel_rfl
          · kernel_rfl
          · kernel_rfl
          · kernel_rfl
          · exact fun _ _ _ h => h
          · first
              | exact Or.inr ⟨by rfl, rfl⟩
              | (refine Or.inl ⟨by rfl, fun wq hwq => ?_⟩
                 dsimp only at hwq
                 go_simp
                 first
                   | done
                   | rfl)
          · exact d0
          simp only [Act.put, List.setIfInBounds_toArray, List.set_cons_zero, List.set_cons_succ]
          apply Till.take (i := 7) [7, 10]
          · simp only [List.getElem?_toArray, List.getElem?_cons_succ, List.getElem?_cons_zero]
            rfl
          · kernel_rfl
          · kernel_rfl
          · kernel_rfl
          · kernel_rfl
          · exact fun _ _ _ h => h
          · first
              | exact Or.inr ⟨by rfl, rfl⟩
              | (refine Or.inl ⟨by rfl, fun wq hwq => ?_⟩
                 dsimp only at hwq
                 go_simp
                 first
                   | done
                   | rfl)
          · exact d0
          simp only [Act.put, List.setIfInBounds_toArray, List.set_cons_zero, List.set_cons_succ]
          obtain ⟨wz, hwz⟩ : ∃ x, x = x5 := ⟨_, rfl⟩
          rw [← hwz] at HE HR HOr HFr d0 ⊢
          clear hwz
          have q0 := (blk_cell HE.out 0).trans (cell2_0 _ _)
          have f0 := blk_free HE.out 0
          have q1 := (blk_cell HE.out 1).trans (cell2_1 _ _)
          have f1 := blk_free HE.out 1
          have s0t : (wz.setCell ⟨E, 0, none⟩ (.int .i64 Y0.1)).heap[E]? = some (.cells #[.int .i64 Y0.1, .slice none 0 0] 26 (0, 0)) := blk_set HE.out 0 (.int .i64 Y0.1)
          have s1t : ((wz.setCell ⟨E, 0, none⟩ (.int .i64 Y0.1)).setCell ⟨E, 1, none⟩ (.slice ar_1 Y0.2.length nr_1)).heap[E]? = some (.cells #[.int .i64 Y0.1, .slice ar_1 Y0.2.length nr_1] 26 (0, 0)) := blk_set s0t 1 (.slice ar_1 Y0.2.length nr_1)
          have t3 : wz.grownBy ((wz.setCell ⟨E, 0, none⟩ (.int .i64 Y0.1)).setCell ⟨E, 1, none⟩ (.slice ar_1 Y0.2.length nr_1)) (some E) := grown_trans (grown_set _ _ _ _) (grown_set _ _ _ _)
          have R9 := Lib.hid (HR.out.grown t3 HR.out.size (fun k hk => by injection hk with hk; have := HEl.out; omega))
          have O9 := Lib.hid (tySpentList.okept (G := fun b => b = E) HOr.out (KeptF.of_grown t3 (fun b h => by injection h with h; exact h.symm)) (fun b hb h => (HFr.out b hb).2 h))
          have F9 : Hid (∀ b, F_r b → (w5_.heap.size ≤ b ∧ b < ((wz.setCell ⟨E, 0, none⟩ (.int .i64 Y0.1)).setCell ⟨E, 1, none⟩ (.slice ar_1 Y0.2.length nr_1)).heap.size) ∧ b ≠ E) := Lib.hid (fun b h => ⟨⟨(HFr.out b h).1.1, Nat.lt_of_lt_of_le (HFr.out b h).1.2 t3.size⟩, (HFr.out b h).2⟩)
          have d9 := HSr.out _ R9.out
          have T9 := Lib.hid s1t
          clear t3 s0t s1t
          apply Till.one (i := 9)
          · kernel_rfl
          · simp only [List.getElem?_toArray, List.getElem?_cons_succ, List.getElem?_cons_zero]
            rfl
          intro K hK
          go_simp
          skip
          refine hK.out _ _ (Or.inr d9) ?_
          clear hK K
          try simp only [Act.put, List.setIfInBounds_toArray, List.set_cons_zero, List.set_cons_succ]
          apply Till.one (i := 10)
          · kernel_rfl
          · simp only [List.getElem?_toArray, List.getElem?_cons_succ, List.getElem?_cons_zero]
            rfl
          intro K hK
          go_simp
          skip
          refine hK.out _ _ (Or.inl (by rfl)) ?_
          clear hK K
          try simp only [Act.put, List.setIfInBounds_toArray, List.set_cons_zero, List.set_cons_succ]
          refine Till.done (by kernel_rfl) ?_ _
          clear q0 f0 q1 f1 d9
          obtain ⟨wy, hwy⟩ : ∃ x, x = ((wz.setCell ⟨E, 0, none⟩ (.int .i64 Y0.1)).setCell ⟨E, 1, none⟩ (.slice ar_1 Y0.2.length nr_1)) := ⟨_, rfl⟩
          rw [← hwy] at T9 R9 O9 F9 ⊢
          clear hwy
          go_wp2_with fail
          go_meet
          case rel => exact ⟨E, ar_1, nr_1, F_r, _, rfl, rfl, rfl, T9.out, O9.out, F9.out, HEl.out, R9.out⟩
      · intro K0 hK
        go_simp
        have hb : Below wd.heap.size wd (wd.alloc (.cells #[.int .i64 0, .slice none 0 0] 26)) := (Below.refl _ _).alloc (Nat.le_refl _) _
        have HE0 := Lib.hid (heap_alloc_new wd (.cells #[.int .i64 0, .slice none 0 0] 26))
        have HEl := Lib.hid HR.out.size
        replace HR := Lib.hid (HR.out.trans (hb.mono HR.out.size))
        clear hb d0
        have d0 := HSr.out _ HR.out
        refine hK.out _ _ (Or.inr d0) ?_
        clear hK K0
        try simp only [Act.put, List.setIfInBounds_toArray, List.set_cons_zero, List.set_cons_succ]
        obtain ⟨x6, hwa⟩ : ∃ x, x = wd.alloc (.cells #[.int .i64 0, .slice none 0 0] 26) := ⟨_, rfl⟩
        obtain ⟨E, hE⟩ : ∃ x, x = wd.heap.size := ⟨_, rfl⟩
        rw [← hwa] at HE0 HR d0 ⊢
        rw [← hE] at HE0 HEl ⊢
        have HE := HE0
        clear hwa hE HE0
        apply Till.one (i := 3)
        · kernel_rfl
        · simp only [List.getElem?_toArray, List.getElem?_cons_succ, List.getElem?_cons_zero]
          rfl
        intro K hK
        go_simp
        refine (toToken_any (tyToken.behind A2.out (HR.out.mono HB.out.size)) (Nat.le_trans HB.out.size HR.out.size) (show (0 : Nat) ≤ 1073741824 by decide)).mono ?_
        rintro e' x7 ⟨c_z2, he, hO_z2, hb⟩
        subst he
        obtain ⟨rfl, _⟩ := own_Token hO_z2
        replace HE := Lib.hid ((hb.block _ (lt_of_block HE.out)).trans HE.out)
        replace HR := Lib.hid (HR.out.trans (hb.mono HR.out.size))
        clear hb d0
        have d0 := HSr.out _ HR.out
        have HO_z2 := Lib.hid hO_z2
        clear hO_z2
        refine hK.out _ _ (Or.inr d0) ?_
        clear hK K
        try simp only [Act.put, List.setIfInBounds_toArray, List.set_cons_zero, List.set_cons_succ]
        apply Till.one (i := 4)
        · kernel_rfl
        · simp only [List.getElem?_toArray, List.getElem?_cons_succ, List.getElem?_cons_zero]
          rfl
        intro K hK
        go_simp
        refine (impl_spt_t (tySpentList.ord (tySpentList.onext O_x0.out HR.out)) (Nat.le_refl _) (tyToken.ord HO_z2.out) (Nat.le_refl _) W1.out B0t.out).mono ?_
        rintro e' x8 ⟨c_r, F_r, he, hO_r, hF_r, hb⟩
        replace hO_r : tySpentList.own F_r x8 c_r ((s0.1, spL s0.1 s0.2 a1 s2.1 s2.2)) := hO_r
        rw [← HY0.out] at hO_r
        rw [← HY1.out] at he
        subst he
        obtain ⟨ar_1, nr_1, _, rfl, _⟩ := own_SpentList hO_r
        have HFr : Hid (∀ b, F_r b → (w5_.heap.size ≤ b ∧ b < x8.heap.size) ∧ b ≠ E) := Lib.hid (fun b h => ⟨⟨Nat.le_trans HR.out.size (hF_r b h).1, (hF_r b h).2⟩, by have := (hF_r b h).1; have := lt_of_block HE.out; omega⟩)
        replace HO_z2 := Lib.hid (tyToken.onext HO_z2.out hb)
        replace HE := Lib.hid ((hb.block _ (lt_of_block HE.out)).trans HE.out)
        replace HR := Lib.hid (HR.out.trans (hb.mono HR.out.size))
        clear hb d0
        have d0 := HSr.out _ HR.out
        have HOr := Lib.hid hO_r
        clear hO_r hF_r
        refine hK.out _ _ (Or.inr d0) ?_
        clear hK K
        try simp only [Act.put, List.setIfInBounds_toArray, List.set_cons_zero, List.set_cons_succ]
        apply Till.take (i := 5) [5, 7, 10]
        · simp only [List.getElem?_toArray, List.getElem?_cons_succ, List.getElem?_cons_zero]
          rfl
        · kernel_rfl
        · kernel_rfl
        · kernel_rfl
        · kernel_rfl
        · exact fun _ _ _ h => h
        · first
            | exact Or.inr ⟨by rfl, rfl⟩
            | (refine Or.inl ⟨by rfl, fun wq hwq => ?_⟩
               dsimp only at hwq
               go_simp
               first
                 | done
                 | rfl)
        · exact d0
        simp only [Act.put, List.setIfInBounds_toArray, List.set_cons_zero, List.set_cons_succ]
        apply Till.take (i := 6) [6, 9, 10]
        · simp only [List.getElem?_toArray, List.getElem?_cons_succ, List.getElem?_cons_zero]
          rfl
        · kernel_rfl
        · kernel_rfl
        · kernel_rfl
        · kernel_rfl
        · exact fun _ _ _ h => h
        · first
            | exact Or.inr ⟨by rfl, rfl⟩
            | (refine Or.inl ⟨by rfl, fun wq hwq => ?_⟩
               dsimp only at hwq
               go_simp
               first
                 | done
                 | rfl)
        · exact d0
        simp only [Act.put, List.setIfInBounds_toArray, List.set_cons_zero, List.set_cons_succ]
        apply Till.take (i := 7) [7, 10]
        · simp only [List.getElem?_toArray, List.getElem?_cons_succ, List.getElem?_cons_zero]
          rfl
        · kernel_rfl
        · kernel_rfl
        · kernel_rfl
        · kernel_rfl
        · exact fun _ _ _ h => h
        · first
            | exact Or.inr ⟨by rfl, rfl⟩
            | (refine Or.inl ⟨by rfl, fun wq hwq => ?_⟩
               dsimp only at hwq
               go_simp
               first
                 | done
                 | rfl)
        · exact d0
        simp only [Act.put, List.setIfInBounds_toArray, List.set_cons_zero, List.set_cons_succ]
        obtain ⟨wz, hwz⟩ : ∃ x, x = x8 := ⟨_, rfl⟩
        rw [← hwz] at HE HR HOr HFr d0 ⊢
        clear hwz
        have q0 := (blk_cell HE.out 0).trans (cell2_0 _ _)
        have f0 := blk_free HE.out 0
        have q1 := (blk_cell HE.out 1).trans (cell2_1 _ _)
        have f1 := blk_free HE.out 1
        have s0t : (wz.setCell ⟨E, 0, none⟩ (.int .i64 Y0.1)).heap[E]? = some (.cells #[.int .i64 Y0.1, .slice none 0 0] 26 (0, 0)) := blk_set HE.out 0 (.int .i64 Y0.1)
        have s1t : ((wz.setCell ⟨E, 0, none⟩ (.int .i64 Y0.1)).setCell ⟨E, 1, none⟩ (.slice ar_1 Y0.2.length nr_1)).heap[E]? = some (.cells #[.int .i64 Y0.1, .slice ar_1 Y0.2.length nr_1] 26 (0, 0)) := blk_set s0t 1 (.slice ar_1 Y0.2.length nr_1)
        have t3 : wz.grownBy ((wz.setCell ⟨E, 0, none⟩ (.int .i64 Y0.1)).setCell ⟨E, 1, none⟩ (.slice ar_1 Y0.2.length nr_1)) (some E) := grown_trans (grown_set _ _ _ _) (grown_set _ _ _ _)
        have R9 := Lib.hid (HR.out.grown t3 HR.out.size (fun k hk => by injection hk with hk; have := HEl.out; omega))
        have O9 := Lib.hid (tySpentList.okept (G := fun b => b = E) HOr.out (KeptF.of_grown t3 (fun b h => by injection h with h; exact h.symm)) (fun b hb h => (HFr.out b hb).2 h))
        have F9 : Hid (∀ b, F_r b → (w5_.heap.size ≤ b ∧ b < ((wz.setCell ⟨E, 0, none⟩ (.int .i64 Y0.1)).setCell ⟨E, 1, none⟩ (.slice ar_1 Y0.2.length nr_1)).heap.size) ∧ b ≠ E) := Lib.hid (fun b h => ⟨⟨(HFr.out b h).1.1, Nat.lt_of_lt_of_le (HFr.out b h).1.2 t3.size⟩, (HFr.out b h).2⟩)
        have d9 := HSr.out _ R9.out
        have T9 := Lib.hid s1t
        clear t3 s0t s1t
        apply Till.one (i := 9)
        · kernel_rfl
        · simp only [List.getElem?_toArray, List.getElem?_cons_succ, List.getElem?_cons_zero]
          rfl
        intro K hK
        go_simp
        skip
        refine hK.out _ _ (Or.inr d9) ?_
        clear hK K
        try simp only [Act.put, List.setIfInBounds_toArray, List.set_cons_zero, List.set_cons_succ]
        apply Till.one (i := 10)
        · kernel_rfl
        · simp only [List.getElem?_toArray, List.getElem?_cons_succ, List.getElem?_cons_zero]
          rfl
        intro K hK
        go_simp
        skip
        refine hK.out _ _ (Or.inl (by rfl)) ?_
        clear hK K
        try simp only [Act.put, List.setIfInBounds_toArray, List.set_cons_zero, List.set_cons_succ]
        refine Till.done (by kernel_rfl) ?_ _
        clear q0 f0 q1 f1 d9
        obtain ⟨wy, hwy⟩ : ∃ x, x = ((wz.setCell ⟨E, 0, none⟩ (.int .i64 Y0.1)).setCell ⟨E, 1, none⟩ (.slice ar_1 Y0.2.length nr_1)) := ⟨_, rfl⟩
        rw [← hwy] at T9 R9 O9 F9 ⊢
        clear hwy
        go_wp2_with fail
        go_meet
        case rel => exact ⟨E, ar_1, nr_1, F_r, _, rfl, rfl, rfl, T9.out, O9.out, F9.out, HEl.out, R9.out⟩
    case rest =>
      obtain ⟨Q_g0, ag0_1, ng0_1, F_g0, w6_, hww, rfl, rfl, hK, hO_g0, hF2_g0, hEl, hb⟩ := hcut
      subst hww
      have hF_g0 := fun b h => (hF2_g0 b h).1
      have N_g0_x0 : Hid (¬ (ival w3_.heap.size w4_.heap.size) (Q_g0)) := Lib.hid (fun h => by have := E_x0.out _ h; omega)
      have X_w0_g0 : Hid (∀ b, F_w0 b → ¬ F_g0 b) := Lib.hid (fun b h1 h2 => by have := E_w0.out b h1; have := (hF_g0 b h2).1; omega)
      have X_x0_g0 : Hid (∀ b, (ival w3_.heap.size w4_.heap.size) b → ¬ F_g0 b) := Lib.hid (fun b h1 h2 => by have := E_x0.out b h1; have := (hF_g0 b h2).1; omega)
      have N_p0_g0 : Hid (¬ F_g0 (w.heap.size)) := Lib.hid (fun h => by have := (hF_g0 _ h).1; have := lt_of_block K_p0.out; omega)
      have N_p2_g0 : Hid (¬ F_g0 (w.heap.size + 1)) := Lib.hid (fun h => by have := (hF_g0 _ h).1; have := lt_of_block K_p2.out; omega)
      have N_w0_g0 : Hid (¬ F_g0 (Q_w0)) := Lib.hid (fun h => by have := (hF_g0 _ h).1; have := lt_of_block K_w0.out; omega)
      have N_x0_g0 : Hid (¬ F_g0 (w4_.heap.size)) := Lib.hid (fun h => by have := (hF_g0 _ h).1; have := lt_of_block K_x0.out; omega)
      have N_g0_g0 : Hid (¬ F_g0 (Q_g0)) := Lib.hid (fun h => (hF2_g0 _ h).2 rfl)
      have D_g0 : Hid (∀ b, F_g0 b → w.heap.size ≤ b) := Lib.hid (fun b h => Nat.le_trans HB.out.size (hF_g0 b h).1)
      replace A0 := Lib.hid (tySpentList.behind A0.out (hb.mono HB.out.size))
      replace A2 := Lib.hid (tyToken.behind A2.out (hb.mono HB.out.size))
      replace O_w0 := Lib.hid (tySpentList.onext O_w0.out hb)
      replace E_w0 : Hid (∀ b, F_w0 b → b < w6_.heap.size) := Lib.hid (fun b h => Nat.lt_of_lt_of_le (E_w0.out b h) hb.size)
      replace O_x0 := Lib.hid (tySpentList.onext O_x0.out hb)
      replace E_x0 : Hid (∀ b, (ival w3_.heap.size w4_.heap.size) b → b < w6_.heap.size) := Lib.hid (fun b h => Nat.lt_of_lt_of_le (E_x0.out b h) hb.size)
      replace K_p0 := Lib.hid ((hb.block _ (lt_of_block K_p0.out)).trans K_p0.out)
      replace K_p2 := Lib.hid ((hb.block _ (lt_of_block K_p2.out)).trans K_p2.out)
      replace K_w0 := Lib.hid ((hb.block _ (lt_of_block K_w0.out)).trans K_w0.out)
      replace K_x0 := Lib.hid ((hb.block _ (lt_of_block K_x0.out)).trans K_x0.out)
      replace HB := Lib.hid (HB.out.trans (hb.mono HB.out.size))
      clear hb
      have O_g0 := Lib.hid hO_g0
      have E_g0 : Hid (∀ b, F_g0 b → b < w6_.heap.size) := Lib.hid (fun b h => (hF_g0 b h).2)
      have K_g0 := Lib.hid hK
      clear hO_g0 hF_g0 hF2_g0 hK hEl
      -- ('eq', 'SpentList', ('own', 'g0'), ('own', 'w0'))
      have k_p0_0 := blk_cell K_p0.out 0
      rw [cell2_0] at k_p0_0
      have k_p0_1 := blk_cell K_p0.out 1
      rw [cell2_1] at k_p0_1
      have k_p2_0 := blk_cell K_p2.out 0
      rw [cell2_0] at k_p2_0
      have k_p2_1 := blk_cell K_p2.out 1
      rw [cell2_1] at k_p2_1
      have k_w0_0 := blk_cell K_w0.out 0
      rw [cell2_0] at k_w0_0
      have k_w0_1 := blk_cell K_w0.out 1
      rw [cell2_1] at k_w0_1
      have k_x0_0 := blk_cell K_x0.out 0
      rw [cell2_0] at k_x0_0
      have k_x0_1 := blk_cell K_x0.out 1
      rw [cell2_1] at k_x0_1
      have k_g0_0 := blk_cell K_g0.out 0
      rw [cell2_0] at k_g0_0
      have k_g0_1 := blk_cell K_g0.out 1
      rw [cell2_1] at k_g0_1
      go_wp2_with fail
      clear k_p0_0 k_p0_1 k_p2_0 k_p2_1 k_w0_0 k_w0_1 k_x0_0 k_x0_1 k_g0_0 k_g0_1
      refine (eqSpentList_same (tySpentList.ord O_g0.out) (tySpentList.ord O_w0.out) (Nat.le_refl _) (Nat.le_refl _)).mono ?_
      rintro e w7_ ⟨he, hb⟩
      subst he
      replace A0 := Lib.hid (tySpentList.behind A0.out (hb.mono HB.out.size))
      replace A2 := Lib.hid (tyToken.behind A2.out (hb.mono HB.out.size))
      replace O_w0 := Lib.hid (tySpentList.onext O_w0.out hb)
      replace E_w0 : Hid (∀ b, F_w0 b → b < w7_.heap.size) := Lib.hid (fun b h => Nat.lt_of_lt_of_le (E_w0.out b h) hb.size)
      replace O_x0 := Lib.hid (tySpentList.onext O_x0.out hb)
      replace E_x0 : Hid (∀ b, (ival w3_.heap.size w4_.heap.size) b → b < w7_.heap.size) := Lib.hid (fun b h => Nat.lt_of_lt_of_le (E_x0.out b h) hb.size)
      replace O_g0 := Lib.hid (tySpentList.onext O_g0.out hb)
      replace E_g0 : Hid (∀ b, F_g0 b → b < w7_.heap.size) := Lib.hid (fun b h => Nat.lt_of_lt_of_le (E_g0.out b h) hb.size)
      replace K_p0 := Lib.hid ((hb.block _ (lt_of_block K_p0.out)).trans K_p0.out)
      replace K_p2 := Lib.hid ((hb.block _ (lt_of_block K_p2.out)).trans K_p2.out)
      replace K_w0 := Lib.hid ((hb.block _ (lt_of_block K_w0.out)).trans K_w0.out)
      replace K_x0 := Lib.hid ((hb.block _ (lt_of_block K_x0.out)).trans K_x0.out)
      replace K_g0 := Lib.hid ((hb.block _ (lt_of_block K_g0.out)).trans K_g0.out)
      replace HB := Lib.hid (HB.out.trans (hb.mono HB.out.size))
      clear hb
      -- ('eq', 'SpentList', ('own', 'x0'), ('copy', 0, 'SpentList'))
      have k_p0_0 := blk_cell K_p0.out 0
      rw [cell2_0] at k_p0_0
      have k_p0_1 := blk_cell K_p0.out 1
      rw [cell2_1] at k_p0_1
      have k_p2_0 := blk_cell K_p2.out 0
      rw [cell2_0] at k_p2_0
      have k_p2_1 := blk_cell K_p2.out 1
      rw [cell2_1] at k_p2_1
      have k_w0_0 := blk_cell K_w0.out 0
      rw [cell2_0] at k_w0_0
      have k_w0_1 := blk_cell K_w0.out 1
      rw [cell2_1] at k_w0_1
      have k_x0_0 := blk_cell K_x0.out 0
      rw [cell2_0] at k_x0_0
      have k_x0_1 := blk_cell K_x0.out 1
      rw [cell2_1] at k_x0_1
      have k_g0_0 := blk_cell K_g0.out 0
      rw [cell2_0] at k_g0_0
      have k_g0_1 := blk_cell K_g0.out 1
      rw [cell2_1] at k_g0_1
      go_wp2_with fail
      clear k_p0_0 k_p0_1 k_p2_0 k_p2_1 k_w0_0 k_w0_1 k_x0_0 k_x0_1 k_g0_0 k_g0_1
      have hb : Below w7_.heap.size w7_ w7_.drew := (Below.refl _ _).drew
      replace A0 := Lib.hid (tySpentList.behind A0.out (hb.mono HB.out.size))
      replace A2 := Lib.hid (tyToken.behind A2.out (hb.mono HB.out.size))
      replace O_w0 := Lib.hid (tySpentList.onext O_w0.out hb)
      replace E_w0 : Hid (∀ b, F_w0 b → b < w7_.drew.heap.size) := Lib.hid (fun b h => Nat.lt_of_lt_of_le (E_w0.out b h) hb.size)
      replace O_x0 := Lib.hid (tySpentList.onext O_x0.out hb)
      replace E_x0 : Hid (∀ b, (ival w3_.heap.size w4_.heap.size) b → b < w7_.drew.heap.size) := Lib.hid (fun b h => Nat.lt_of_lt_of_le (E_x0.out b h) hb.size)
      replace O_g0 := Lib.hid (tySpentList.onext O_g0.out hb)
      replace E_g0 : Hid (∀ b, F_g0 b → b < w7_.drew.heap.size) := Lib.hid (fun b h => Nat.lt_of_lt_of_le (E_g0.out b h) hb.size)
      replace K_p0 := Lib.hid ((hb.block _ (lt_of_block K_p0.out)).trans K_p0.out)
      replace K_p2 := Lib.hid ((hb.block _ (lt_of_block K_p2.out)).trans K_p2.out)
      replace K_w0 := Lib.hid ((hb.block _ (lt_of_block K_w0.out)).trans K_w0.out)
      replace K_x0 := Lib.hid ((hb.block _ (lt_of_block K_x0.out)).trans K_x0.out)
      replace K_g0 := Lib.hid ((hb.block _ (lt_of_block K_g0.out)).trans K_g0.out)
      replace HB := Lib.hid (HB.out.trans (hb.mono HB.out.size))
      clear hb
      have d0 : w7_.drew.cell? ⟨w4_.heap.size, 0, none⟩ = some (.int .i64 s0.1) ∧ w7_.drew.cell? ⟨w4_.heap.size, 1, none⟩ = some (.slice ax0_1 s0.2.length nx0_1) ∧ w7_.drew.cell? ⟨w.heap.size, 0, none⟩ = some (.int .i64 s0.1) ∧ w7_.drew.cell? ⟨w.heap.size, 1, none⟩ = some (.slice a0_1 s0.2.length n0_1) := ⟨(blk_cell K_x0.out 0).trans (cell2_0 _ _), (blk_cell K_x0.out 1).trans (cell2_1 _ _), (blk_cell K_p0.out 0).trans (cell2_0 _ _), (blk_cell K_p0.out 1).trans (cell2_1 _ _)⟩
      go_region_held3 (fun w' => w'.cell? ⟨w4_.heap.size, 0, none⟩ = some (.int .i64 s0.1) ∧ w'.cell? ⟨w4_.heap.size, 1, none⟩ = some (.slice ax0_1 s0.2.length nx0_1) ∧ w'.cell? ⟨w.heap.size, 0, none⟩ = some (.int .i64 s0.1) ∧ w'.cell? ⟨w.heap.size, 1, none⟩ = some (.slice a0_1 s0.2.length n0_1)) (first | assumption | go_keep) ((first
        | (go_at_call 34
           go_loud (refine (toSpentList_any A0.out HB.out.size (Nat.le_trans B0t.out (by decide))).mono ?_
                    rintro e w8_ ⟨c_t1, he, hO_t1, hb⟩
                    subst he
                    have hF_t1 : ∀ b, (ival w7_.drew.heap.size w8_.heap.size) b → w7_.drew.heap.size ≤ b ∧ b < w8_.heap.size := fun b h => h
                    obtain ⟨at1_1, nt1_1, _, rfl, _⟩ := own_SpentList hO_t1
                    have X_x0_t1 : Hid (∀ b, (ival w3_.heap.size w4_.heap.size) b → ¬ (ival w7_.drew.heap.size w8_.heap.size) b) := Lib.hid (fun b h1 h2 => by have := E_x0.out b h1; have := (hF_t1 b h2).1; omega)
                    have X_g0_t1 : Hid (∀ b, F_g0 b → ¬ (ival w7_.drew.heap.size w8_.heap.size) b) := Lib.hid (fun b h1 h2 => by have := E_g0.out b h1; have := (hF_t1 b h2).1; omega)
                    have D_t1 : Hid (∀ b, (ival w7_.drew.heap.size w8_.heap.size) b → w.heap.size ≤ b) := Lib.hid (fun b h => Nat.le_trans HB.out.size (hF_t1 b h).1)
                    replace A0 := Lib.hid (tySpentList.behind A0.out (hb.mono HB.out.size))
                    replace A2 := Lib.hid (tyToken.behind A2.out (hb.mono HB.out.size))
                    replace O_w0 := Lib.hid (tySpentList.onext O_w0.out hb)
                    replace E_w0 : Hid (∀ b, F_w0 b → b < w8_.heap.size) := Lib.hid (fun b h => Nat.lt_of_lt_of_le (E_w0.out b h) hb.size)
                    replace O_x0 := Lib.hid (tySpentList.onext O_x0.out hb)
                    replace E_x0 : Hid (∀ b, (ival w3_.heap.size w4_.heap.size) b → b < w8_.heap.size) := Lib.hid (fun b h => Nat.lt_of_lt_of_le (E_x0.out b h) hb.size)
                    replace O_g0 := Lib.hid (tySpentList.onext O_g0.out hb)
                    replace E_g0 : Hid (∀ b, F_g0 b → b < w8_.heap.size) := Lib.hid (fun b h => Nat.lt_of_lt_of_le (E_g0.out b h) hb.size)
                    replace K_p0 := Lib.hid ((hb.block _ (lt_of_block K_p0.out)).trans K_p0.out)
                    replace K_p2 := Lib.hid ((hb.block _ (lt_of_block K_p2.out)).trans K_p2.out)
                    replace K_w0 := Lib.hid ((hb.block _ (lt_of_block K_w0.out)).trans K_w0.out)
                    replace K_x0 := Lib.hid ((hb.block _ (lt_of_block K_x0.out)).trans K_x0.out)
                    replace K_g0 := Lib.hid ((hb.block _ (lt_of_block K_g0.out)).trans K_g0.out)
                    replace HB := Lib.hid (HB.out.trans (hb.mono HB.out.size))
                    clear hb
                    have O_t1 := Lib.hid hO_t1
                    have E_t1 : Hid (∀ b, (ival w7_.drew.heap.size w8_.heap.size) b → b < w8_.heap.size) := Lib.hid (fun b h => (hF_t1 b h).2)
                    clear hO_t1 hF_t1
                    have d1 : w8_.cell? ⟨w4_.heap.size, 0, none⟩ = some (.int .i64 s0.1) ∧ w8_.cell? ⟨w4_.heap.size, 1, none⟩ = some (.slice ax0_1 s0.2.length nx0_1) ∧ w8_.cell? ⟨w.heap.size, 0, none⟩ = some (.int .i64 s0.1) ∧ w8_.cell? ⟨w.heap.size, 1, none⟩ = some (.slice a0_1 s0.2.length n0_1) := ⟨(blk_cell K_x0.out 0).trans (cell2_0 _ _), (blk_cell K_x0.out 1).trans (cell2_1 _ _), (blk_cell K_p0.out 0).trans (cell2_0 _ _), (blk_cell K_p0.out 1).trans (cell2_1 _ _)⟩))
        | (go_at_call 30
           go_loud (refine (eqSpentList_same (tySpentList.ord O_x0.out) (tySpentList.ord O_t1.out) (Nat.le_refl _) (Nat.le_refl _)).mono ?_
                    rintro e w9_ ⟨he, hb⟩
                    subst he
                    replace A0 := Lib.hid (tySpentList.behind A0.out (hb.mono HB.out.size))
                    replace A2 := Lib.hid (tyToken.behind A2.out (hb.mono HB.out.size))
                    replace O_w0 := Lib.hid (tySpentList.onext O_w0.out hb)
                    replace E_w0 : Hid (∀ b, F_w0 b → b < w9_.heap.size) := Lib.hid (fun b h => Nat.lt_of_lt_of_le (E_w0.out b h) hb.size)
                    replace O_x0 := Lib.hid (tySpentList.onext O_x0.out hb)
                    replace E_x0 : Hid (∀ b, (ival w3_.heap.size w4_.heap.size) b → b < w9_.heap.size) := Lib.hid (fun b h => Nat.lt_of_lt_of_le (E_x0.out b h) hb.size)
                    replace O_g0 := Lib.hid (tySpentList.onext O_g0.out hb)
                    replace E_g0 : Hid (∀ b, F_g0 b → b < w9_.heap.size) := Lib.hid (fun b h => Nat.lt_of_lt_of_le (E_g0.out b h) hb.size)
                    replace O_t1 := Lib.hid (tySpentList.onext O_t1.out hb)
                    replace E_t1 : Hid (∀ b, (ival w7_.drew.heap.size w8_.heap.size) b → b < w9_.heap.size) := Lib.hid (fun b h => Nat.lt_of_lt_of_le (E_t1.out b h) hb.size)
                    replace K_p0 := Lib.hid ((hb.block _ (lt_of_block K_p0.out)).trans K_p0.out)
                    replace K_p2 := Lib.hid ((hb.block _ (lt_of_block K_p2.out)).trans K_p2.out)
                    replace K_w0 := Lib.hid ((hb.block _ (lt_of_block K_w0.out)).trans K_w0.out)
                    replace K_x0 := Lib.hid ((hb.block _ (lt_of_block K_x0.out)).trans K_x0.out)
                    replace K_g0 := Lib.hid ((hb.block _ (lt_of_block K_g0.out)).trans K_g0.out)
                    replace HB := Lib.hid (HB.out.trans (hb.mono HB.out.size))
                    clear hb
                    have d2 : w9_.cell? ⟨w4_.heap.size, 0, none⟩ = some (.int .i64 s0.1) ∧ w9_.cell? ⟨w4_.heap.size, 1, none⟩ = some (.slice ax0_1 s0.2.length nx0_1) ∧ w9_.cell? ⟨w.heap.size, 0, none⟩ = some (.int .i64 s0.1) ∧ w9_.cell? ⟨w.heap.size, 1, none⟩ = some (.slice a0_1 s0.2.length n0_1) := ⟨(blk_cell K_x0.out 0).trans (cell2_0 _ _), (blk_cell K_x0.out 1).trans (cell2_1 _ _), (blk_cell K_p0.out 0).trans (cell2_0 _ _), (blk_cell K_p0.out 1).trans (cell2_1 _ _)⟩))))
      clear d0 d1 d2
      clear O_t1 E_t1 D_t1
      clear X_x0_t1
      clear X_g0_t1
      -- ('set', 'k', '1')
      -- ('mark', 'k', 'SpentList', 'x0', 'k')
      have hF7 : tySpentList.vcnt s0 ≤ 1099511627776 := vb_sl B0t.out
      obtain ⟨K7, hK7⟩ : ∃ K : Int, K = 1 + ((tySpentList.vcnt s0 : Nat) : Int) := ⟨_, rfl⟩
      have hB7 : 0 ≤ K7 ∧ K7 ≤ 1099511627786 := by omega
      have G7 := Lib.hid hK7
      clear hK7
      have k_p0_0 := blk_cell K_p0.out 0
      rw [cell2_0] at k_p0_0
      have k_p0_1 := blk_cell K_p0.out 1
      rw [cell2_1] at k_p0_1
      have k_p2_0 := blk_cell K_p2.out 0
      rw [cell2_0] at k_p2_0
      have k_p2_1 := blk_cell K_p2.out 1
      rw [cell2_1] at k_p2_1
      have k_w0_0 := blk_cell K_w0.out 0
      rw [cell2_0] at k_w0_0
      have k_w0_1 := blk_cell K_w0.out 1
      rw [cell2_1] at k_w0_1
      have k_x0_0 := blk_cell K_x0.out 0
      rw [cell2_0] at k_x0_0
      have k_x0_1 := blk_cell K_x0.out 1
      rw [cell2_1] at k_x0_1
      have k_g0_0 := blk_cell K_g0.out 0
      rw [cell2_0] at k_g0_0
      have k_g0_1 := blk_cell K_g0.out 1
      rw [cell2_1] at k_g0_1
      go_wp2_with fail
      clear k_p0_0 k_p0_1 k_p2_0 k_p2_1 k_w0_0 k_w0_1 k_x0_0 k_x0_1 k_g0_0 k_g0_1
      refine (markSpentList_any (k0 := 1) O_x0.out E_x0.out (by omega) (by omega)).mono ?_
      rintro e w10_ ⟨he, hO, hk⟩
      rw [← G7.out] at he
      subst he
      have hb := hk.below (B := w.heap.size) D_x0.out HB.out.size
      replace A0 := Lib.hid (tySpentList.behind A0.out hb)
      replace A2 := Lib.hid (tyToken.behind A2.out hb)
      replace O_w0 := Lib.hid (tySpentList.okept O_w0.out hk X_w0_x0.out)
      replace E_w0 : Hid (∀ b, F_w0 b → b < w10_.heap.size) := Lib.hid (fun b h => Nat.lt_of_lt_of_le (E_w0.out b h) hk.size)
      replace E_x0 : Hid (∀ b, (ival w3_.heap.size w4_.heap.size) b → b < w10_.heap.size) := Lib.hid (fun b h => Nat.lt_of_lt_of_le (E_x0.out b h) hk.size)
      replace O_g0 := Lib.hid (tySpentList.okept O_g0.out hk (fun b h1 h2 => X_x0_g0.out b h2 h1))
      replace E_g0 : Hid (∀ b, F_g0 b → b < w10_.heap.size) := Lib.hid (fun b h => Nat.lt_of_lt_of_le (E_g0.out b h) hk.size)
      replace K_p0 := Lib.hid ((hk.block _ (lt_of_block K_p0.out) N_p0_x0.out).trans K_p0.out)
      replace K_p2 := Lib.hid ((hk.block _ (lt_of_block K_p2.out) N_p2_x0.out).trans K_p2.out)
      replace K_w0 := Lib.hid ((hk.block _ (lt_of_block K_w0.out) N_w0_x0.out).trans K_w0.out)
      replace K_x0 := Lib.hid ((hk.block _ (lt_of_block K_x0.out) N_x0_x0.out).trans K_x0.out)
      replace K_g0 := Lib.hid ((hk.block _ (lt_of_block K_g0.out) N_g0_x0.out).trans K_g0.out)
      replace HB := Lib.hid (HB.out.trans hb)
      replace O_x0 := Lib.hid hO
      clear hO hk hb
      clear O_x0 E_x0 D_x0
      clear X_w0_x0
      clear X_x0_g0
      clear N_p0_x0
      clear N_p2_x0
      clear N_w0_x0
      clear N_x0_x0
      clear N_g0_x0
      clear K_x0
      clear N_x0_g0
      -- ('eq', 'SpentList', ('own', 'g0'), ('own', 'w0'))
      have k_p0_0 := blk_cell K_p0.out 0
      rw [cell2_0] at k_p0_0
      have k_p0_1 := blk_cell K_p0.out 1
      rw [cell2_1] at k_p0_1
      have k_p2_0 := blk_cell K_p2.out 0
      rw [cell2_0] at k_p2_0
      have k_p2_1 := blk_cell K_p2.out 1
      rw [cell2_1] at k_p2_1
      have k_w0_0 := blk_cell K_w0.out 0
      rw [cell2_0] at k_w0_0
      have k_w0_1 := blk_cell K_w0.out 1
      rw [cell2_1] at k_w0_1
      have k_g0_0 := blk_cell K_g0.out 0
      rw [cell2_0] at k_g0_0
      have k_g0_1 := blk_cell K_g0.out 1
      rw [cell2_1] at k_g0_1
      go_wp2_with fail
      clear k_p0_0 k_p0_1 k_p2_0 k_p2_1 k_w0_0 k_w0_1 k_g0_0 k_g0_1
      refine (eqSpentList_same (tySpentList.ord O_g0.out) (tySpentList.ord O_w0.out) (Nat.le_refl _) (Nat.le_refl _)).mono ?_
      rintro e w11_ ⟨he, hb⟩
      subst he
      replace A0 := Lib.hid (tySpentList.behind A0.out (hb.mono HB.out.size))
      replace A2 := Lib.hid (tyToken.behind A2.out (hb.mono HB.out.size))
      replace O_w0 := Lib.hid (tySpentList.onext O_w0.out hb)
      replace E_w0 : Hid (∀ b, F_w0 b → b < w11_.heap.size) := Lib.hid (fun b h => Nat.lt_of_lt_of_le (E_w0.out b h) hb.size)
      replace O_g0 := Lib.hid (tySpentList.onext O_g0.out hb)
      replace E_g0 : Hid (∀ b, F_g0 b → b < w11_.heap.size) := Lib.hid (fun b h => Nat.lt_of_lt_of_le (E_g0.out b h) hb.size)
      replace K_p0 := Lib.hid ((hb.block _ (lt_of_block K_p0.out)).trans K_p0.out)
      replace K_p2 := Lib.hid ((hb.block _ (lt_of_block K_p2.out)).trans K_p2.out)
      replace K_w0 := Lib.hid ((hb.block _ (lt_of_block K_w0.out)).trans K_w0.out)
      replace K_g0 := Lib.hid ((hb.block _ (lt_of_block K_g0.out)).trans K_g0.out)
      replace HB := Lib.hid (HB.out.trans (hb.mono HB.out.size))
      clear hb
      -- ('set', 'm', '1')
      -- ('mark', 'm', 'SpentList', 'g0', 'm')
      have hF10 : tySpentList.vcnt Y0 ≤ 1099511627776 := by rw [HY0.out]; exact vb_sp B0t.out _ _ _
      obtain ⟨K10, hK10⟩ : ∃ K : Int, K = 1 + ((tySpentList.vcnt Y0 : Nat) : Int) := ⟨_, rfl⟩
      have hB10 : 0 ≤ K10 ∧ K10 ≤ 2199023255562 := by omega
      have G10 := Lib.hid hK10
      clear hK10
      have k_p0_0 := blk_cell K_p0.out 0
      rw [cell2_0] at k_p0_0
      have k_p0_1 := blk_cell K_p0.out 1
      rw [cell2_1] at k_p0_1
      have k_p2_0 := blk_cell K_p2.out 0
      rw [cell2_0] at k_p2_0
      have k_p2_1 := blk_cell K_p2.out 1
      rw [cell2_1] at k_p2_1
      have k_w0_0 := blk_cell K_w0.out 0
      rw [cell2_0] at k_w0_0
      have k_w0_1 := blk_cell K_w0.out 1
      rw [cell2_1] at k_w0_1
      have k_g0_0 := blk_cell K_g0.out 0
      rw [cell2_0] at k_g0_0
      have k_g0_1 := blk_cell K_g0.out 1
      rw [cell2_1] at k_g0_1
      go_wp2_with fail
      clear k_p0_0 k_p0_1 k_p2_0 k_p2_1 k_w0_0 k_w0_1 k_g0_0 k_g0_1
      refine (markSpentList_any (k0 := 1) O_g0.out E_g0.out (by omega) (by omega)).mono ?_
      rintro e w12_ ⟨he, hO, hk⟩
      rw [← G10.out] at he
      subst he
      have hb := hk.below (B := w.heap.size) D_g0.out HB.out.size
      replace A0 := Lib.hid (tySpentList.behind A0.out hb)
      replace A2 := Lib.hid (tyToken.behind A2.out hb)
      replace O_w0 := Lib.hid (tySpentList.okept O_w0.out hk X_w0_g0.out)
      replace E_w0 : Hid (∀ b, F_w0 b → b < w12_.heap.size) := Lib.hid (fun b h => Nat.lt_of_lt_of_le (E_w0.out b h) hk.size)
      replace E_g0 : Hid (∀ b, F_g0 b → b < w12_.heap.size) := Lib.hid (fun b h => Nat.lt_of_lt_of_le (E_g0.out b h) hk.size)
      replace K_p0 := Lib.hid ((hk.block _ (lt_of_block K_p0.out) N_p0_g0.out).trans K_p0.out)
      replace K_p2 := Lib.hid ((hk.block _ (lt_of_block K_p2.out) N_p2_g0.out).trans K_p2.out)
      replace K_w0 := Lib.hid ((hk.block _ (lt_of_block K_w0.out) N_w0_g0.out).trans K_w0.out)
      replace K_g0 := Lib.hid ((hk.block _ (lt_of_block K_g0.out) N_g0_g0.out).trans K_g0.out)
      replace HB := Lib.hid (HB.out.trans hb)
      replace O_g0 := Lib.hid hO
      clear hO hk hb
      -- ('set', 'q', '1')
      -- ('held', 'q', 'SpentList', 'g0', 'q')
      have k_p0_0 := blk_cell K_p0.out 0
      rw [cell2_0] at k_p0_0
      have k_p0_1 := blk_cell K_p0.out 1
      rw [cell2_1] at k_p0_1
      have k_p2_0 := blk_cell K_p2.out 0
      rw [cell2_0] at k_p2_0
      have k_p2_1 := blk_cell K_p2.out 1
      rw [cell2_1] at k_p2_1
      have k_w0_0 := blk_cell K_w0.out 0
      rw [cell2_0] at k_w0_0
      have k_w0_1 := blk_cell K_w0.out 1
      rw [cell2_1] at k_w0_1
      have k_g0_0 := blk_cell K_g0.out 0
      rw [cell2_0] at k_g0_0
      have k_g0_1 := blk_cell K_g0.out 1
      rw [cell2_1] at k_g0_1
      go_wp2_with fail
      clear k_p0_0 k_p0_1 k_p2_0 k_p2_1 k_w0_0 k_w0_1 k_g0_0 k_g0_1
      refine (heldSpentList_any (x := Y0) (k0 := 1) (tySpentList.ord O_g0.out) (Nat.le_refl _) (by omega) (by omega)).mono ?_
      rintro e w13_ ⟨he, hb⟩
      rw [← G10.out] at he
      subst he
      replace A0 := Lib.hid (tySpentList.behind A0.out (hb.mono HB.out.size))
      replace A2 := Lib.hid (tyToken.behind A2.out (hb.mono HB.out.size))
      replace O_w0 := Lib.hid (tySpentList.onext O_w0.out hb)
      replace E_w0 : Hid (∀ b, F_w0 b → b < w13_.heap.size) := Lib.hid (fun b h => Nat.lt_of_lt_of_le (E_w0.out b h) hb.size)
      replace O_g0 := Lib.hid (tySpentList.onext O_g0.out hb)
      replace E_g0 : Hid (∀ b, F_g0 b → b < w13_.heap.size) := Lib.hid (fun b h => Nat.lt_of_lt_of_le (E_g0.out b h) hb.size)
      replace K_p0 := Lib.hid ((hb.block _ (lt_of_block K_p0.out)).trans K_p0.out)
      replace K_p2 := Lib.hid ((hb.block _ (lt_of_block K_p2.out)).trans K_p2.out)
      replace K_w0 := Lib.hid ((hb.block _ (lt_of_block K_w0.out)).trans K_w0.out)
      replace K_g0 := Lib.hid ((hb.block _ (lt_of_block K_g0.out)).trans K_g0.out)
      replace HB := Lib.hid (HB.out.trans (hb.mono HB.out.size))
      clear hb
      have dd12 : decide (K10 < 0) = false := by simp; omega
      -- ('call', 'impl', 'SpendToken', [('copy', 0, 'SpentList'), ('arg', 1), ('copy', 2, 'Token')], ['h0', 'h1'])
      have k_p0_0 := blk_cell K_p0.out 0
      rw [cell2_0] at k_p0_0
      have k_p0_1 := blk_cell K_p0.out 1
      rw [cell2_1] at k_p0_1
      have k_p2_0 := blk_cell K_p2.out 0
      rw [cell2_0] at k_p2_0
      have k_p2_1 := blk_cell K_p2.out 1
      rw [cell2_1] at k_p2_1
      have k_w0_0 := blk_cell K_w0.out 0
      rw [cell2_0] at k_w0_0
      have k_w0_1 := blk_cell K_w0.out 1
      rw [cell2_1] at k_w0_1
      have k_g0_0 := blk_cell K_g0.out 0
      rw [cell2_0] at k_g0_0
      have k_g0_1 := blk_cell K_g0.out 1
      rw [cell2_1] at k_g0_1
      go_wp2_with fail
      clear k_p0_0 k_p0_1 k_p2_0 k_p2_1 k_w0_0 k_w0_1 k_g0_0 k_g0_1
      go_cut [16, 17] (fun p0 p1 wx => ∃ (E : Nat) (ar_1 : Option Addr) (nr_1 : Nat) (F : Nat → Prop) (WW : World), WW = wx ∧ p0 = .pointer (some ⟨E, 0, none⟩) ∧ p1 = .int .i64 Y1 ∧ wx.heap[E]? = some (.cells #[.int .i64 Y0.1, .slice ar_1 Y0.2.length nr_1] 26 (0, 0)) ∧ tySpentList.own F wx [.int .i64 Y0.1, .slice ar_1 Y0.2.length nr_1] Y0 ∧ (∀ b, F b → (w13_.heap.size ≤ b ∧ b < wx.heap.size) ∧ b ≠ E) ∧ w13_.heap.size ≤ E ∧ Below w13_.heap.size w13_ wx)
      case first =>
        refine region_till (fun x => x.cell? ⟨w.heap.size, 0, none⟩ = some (.int .i64 s0.1) ∧ x.cell? ⟨w.heap.size, 1, none⟩ = some (.slice a0_1 s0.2.length n0_1) ∧ x.cell? ⟨w.heap.size + 1, 0, none⟩ = some (.int .i64 s2.1) ∧ x.cell? ⟨w.heap.size + 1, 1, none⟩ = some (.int .i64 s2.2)) 11 (by kernel_rfl) ?_
        obtain ⟨wd, hwd⟩ : ∃ x, x = w13_.drew := ⟨_, rfl⟩
        have HR : Hid (Below w13_.heap.size w13_ wd) := Lib.hid (by rw [hwd]; exact (Below.refl _ _).drew)
        have HSr : Hid (∀ x, Below w13_.heap.size w13_ x → (x.cell? ⟨w.heap.size, 0, none⟩ = some (.int .i64 s0.1) ∧ x.cell? ⟨w.heap.size, 1, none⟩ = some (.slice a0_1 s0.2.length n0_1) ∧ x.cell? ⟨w.heap.size + 1, 0, none⟩ = some (.int .i64 s2.1) ∧ x.cell? ⟨w.heap.size + 1, 1, none⟩ = some (.int .i64 s2.2))) := Lib.hid (fun x hx => ⟨(blk_cell ((hx.block _ (lt_of_block K_p0.out)).trans K_p0.out) 0).trans (cell2_0 _ _), (blk_cell ((hx.block _ (lt_of_block K_p0.out)).trans K_p0.out) 1).trans (cell2_1 _ _), (blk_cell ((hx.block _ (lt_of_block K_p2.out)).trans K_p2.out) 0).trans (cell2_0 _ _), (blk_cell ((hx.block _ (lt_of_block K_p2.out)).trans K_p2.out) 1).trans (cell2_1 _ _)⟩)
        have d0 := HSr.out _ HR.out
        rw [← hwd]
        clear hwd
        apply Till.take (i := 0) [0, 1, 5, 6, 8, 11]
        · simp only [List.getElem?_toArray, List.getElem?_cons_zero]
          rfl
        · kernel_rfl
        · kernel_rfl
        · kernel_rfl
        · kernel_rfl
        · exact fun _ _ _ h => h
        · first
            | exact Or.inr ⟨by rfl, rfl⟩
            | (refine Or.inl ⟨by rfl, fun wq hwq => ?_⟩
               dsimp only at hwq
               go_simp
               first
                 | done
                 | rfl)
        · exact d0
        simp only [Act.put, List.setIfInBounds_toArray, List.set_cons_zero, List.set_cons_succ]
        apply Till.take (i := 2) [2, 5, 6, 8, 11]
        · simp only [List.getElem?_toArray, List.getElem?_cons_succ, List.getElem?_cons_zero]
          rfl
        · kernel_rfl
        · kernel_rfl
        · kernel_rfl
        · kernel_rfl
        · exact fun _ _ _ h => h
        · first
            | exact Or.inr ⟨by rfl, rfl⟩
            | (refine Or.inl ⟨by rfl, fun wq hwq => ?_⟩
               dsimp only at hwq
               go_simp
               first
                 | done
                 | rfl)
        · exact d0
        simp only [Act.put, List.setIfInBounds_toArray, List.set_cons_zero, List.set_cons_succ]
        apply Till.take (i := 3) [3, 4, 5, 6, 8, 11]
        · simp only [List.getElem?_toArray, List.getElem?_cons_succ, List.getElem?_cons_zero]
          rfl
        · kernel_rfl
        · kernel_rfl
        · kernel_rfl
        · kernel_rfl
        · exact fun _ _ _ h => h
        · first
            | exact Or.inr ⟨by rfl, rfl⟩
            | (refine Or.inl ⟨by rfl, fun wq hwq => ?_⟩
               dsimp only at hwq
               go_simp
               first
                 | done
                 | rfl)
        · exact d0
        simp only [Act.put, List.setIfInBounds_toArray, List.set_cons_zero, List.set_cons_succ]
        apply Till.two (i := 1) (j := 9)
        · kernel_rfl
        · simp only [List.getElem?_toArray, List.getElem?_cons_succ, List.getElem?_cons_zero]
          rfl
        · simp only [List.getElem?_toArray, List.getElem?_cons_succ, List.getElem?_cons_zero]
          rfl
        · intro K0 hK
          go_simp
          refine (toSpentList_any (tySpentList.behind A0.out (HR.out.mono HB.out.size)) (Nat.le_trans HB.out.size HR.out.size) (Nat.le_trans B0t.out (by decide))).mono ?_
          rintro e' x1 ⟨c_z0, he, hO_z0, hb⟩
          subst he
          obtain ⟨az0_1, nz0_1, _, rfl, _⟩ := own_SpentList hO_z0
          replace HR := Lib.hid (HR.out.trans (hb.mono HR.out.size))
          clear hb d0
          have d0 := HSr.out _ HR.out
          have HO_z0 := Lib.hid hO_z0
          clear hO_z0
          refine hK.out _ _ (Or.inr d0) ?_
          clear hK K0
          try simp only [Act.put, List.setIfInBounds_toArray, List.set_cons_zero, List.set_cons_succ]
          apply Till.two (i := 4) (j := 9)
          · kernel_rfl
          · simp only [List.getElem?_toArray, List.getElem?_cons_succ, List.getElem?_cons_zero]
            rfl
          · simp only [List.getElem?_toArray, List.getElem?_cons_succ, List.getElem?_cons_zero]
            rfl
          · intro K0 hK
            go_simp
            refine (toToken_any (tyToken.behind A2.out (HR.out.mono HB.out.size)) (Nat.le_trans HB.out.size HR.out.size) (show (0 : Nat) ≤ 1073741824 by decide)).mono ?_
            rintro e' x2 ⟨c_z2, he, hO_z2, hb⟩
            subst he
            obtain ⟨rfl, _⟩ := own_Token hO_z2
            replace HO_z0 := Lib.hid (tySpentList.onext HO_z0.out hb)
            replace HR := Lib.hid (HR.out.trans (hb.mono HR.out.size))
            clear hb d0
            have d0 := HSr.out _ HR.out
            have HO_z2 := Lib.hid hO_z2
            clear hO_z2
            refine hK.out _ _ (Or.inr d0) ?_
            clear hK K0
            try simp only [Act.put, List.setIfInBounds_toArray, List.set_cons_zero, List.set_cons_succ]
            apply Till.two (i := 5) (j := 9)
            · kernel_rfl
            · simp only [List.getElem?_toArray, List.getElem?_cons_succ, List.getElem?_cons_zero]
              rfl
            · simp only [List.getElem?_toArray, List.getElem?_cons_succ, List.getElem?_cons_zero]
              rfl
            · intro K0 hK
              go_simp
              refine (impl_spt_t (tySpentList.ord HO_z0.out) (Nat.le_refl _) (tyToken.ord HO_z2.out) (Nat.le_refl _) W1.out B0t.out).mono ?_
              rintro e' x3 ⟨c_r, F_r, he, hO_r, hF_r, hb⟩
              replace hO_r : tySpentList.own F_r x3 c_r ((s0.1, spL s0.1 s0.2 a1 s2.1 s2.2)) := hO_r
              rw [← HY0.out] at hO_r
              rw [← HY1.out] at he
              subst he
              obtain ⟨ar_1, nr_1, _, rfl, _⟩ := own_SpentList hO_r
              have HFr : Hid (∀ b, F_r b → w13_.heap.size ≤ b ∧ b < x3.heap.size) := Lib.hid (fun b h => ⟨Nat.le_trans HR.out.size (hF_r b h).1, (hF_r b h).2⟩)
              replace HO_z0 := Lib.hid (tySpentList.onext HO_z0.out hb)
              replace HO_z2 := Lib.hid (tyToken.onext HO_z2.out hb)
              replace HR := Lib.hid (HR.out.trans (hb.mono HR.out.size))
              clear hb d0
              have d0 := HSr.out _ HR.out
              have HOr := Lib.hid hO_r
              clear hO_r hF_r
              refine hK.out _ _ (Or.inr d0) ?_
              clear hK K0
              try simp only [Act.put, List.setIfInBounds_toArray, List.set_cons_zero, List.set_cons_succ]
              apply Till.take (i := 6) [6, 8, 11]
              · simp only [List.getElem?_toArray, List.getElem?_cons_succ, List.getElem?_cons_zero]
                rfl
              · kernel_rfl
              · kernel_rfl
              · kernel_rfl
              · kernel_rfl
              · exact fun _ _ _ h => h
              · first
                  | exact Or.inr ⟨by rfl, rfl⟩
                  | (refine Or.inl ⟨by rfl, fun wq hwq => ?_⟩
                     dsimp only at hwq
                     go_simp
                     first
                       | done
                       | rfl)
              · exact d0
              simp only [Act.put, List.setIfInBounds_toArray, List.set_cons_zero, List.set_cons_succ]
              apply Till.take (i := 7) [7, 10, 11]
              · simp only [List.getElem?_toArray, List.getElem?_cons_succ, List.getElem?_cons_zero]
                rfl
              · kernel_rfl
              · kernel_rfl
              · kernel_rfl
              · kernel_rfl
              · exact fun _ _ _ h => h
              · first
                  | exact Or.inr ⟨by rfl, rfl⟩
                  | (refine Or.inl ⟨by rfl, fun wq hwq => ?_⟩
                     dsimp only at hwq
                     go_simp
                     first
                       | done
                       | rfl)
              · exact d0
              simp only [Act.put, List.setIfInBounds_toArray, List.set_cons_zero, List.set_cons_succ]
              apply Till.take (i := 8) [8, 11]
              · simp only [List.getElem?_toArray, List.getElem?_cons_succ, List.getElem?_cons_zero]
                rfl
              · kernel_rfl
              · kernel_rfl
              · kernel_rfl
              · kernel_rfl
              · exact fun _ _ _ h => h
              · first
                  | exact Or.inr ⟨by rfl, rfl⟩
                  | (refine Or.inl ⟨by rfl, fun wq hwq => ?_⟩
                     dsimp only at hwq
                     go_simp
                     first
                       | done
                       | rfl)
              · exact d0
              simp only [Act.put, List.setIfInBounds_toArray, List.set_cons_zero, List.set_cons_succ]
              apply Till.one (i := 9)
              · kernel_rfl
              · simp only [List.getElem?_toArray, List.getElem?_cons_succ, List.getElem?_cons_zero]
                rfl
              intro K hK
              go_simp
              have hb : Below x3.heap.size x3 (x3.alloc (.cells #[.int .i64 0, .slice none 0 0] 26)) := (Below.refl _ _).alloc (Nat.le_refl _) _
              have HE0 := Lib.hid (heap_alloc_new x3 (.cells #[.int .i64 0, .slice none 0 0] 26))
              have HEl := Lib.hid HR.out.size
              replace HFr : Hid (∀ b, F_r b → (w13_.heap.size ≤ b ∧ b < (x3.alloc (.cells #[.int .i64 0, .slice none 0 0] 26)).heap.size) ∧ b ≠ x3.heap.size) := Lib.hid (fun b h => ⟨⟨(HFr.out b h).1, Nat.lt_of_lt_of_le (HFr.out b h).2 hb.size⟩, by have := (HFr.out b h).2; omega⟩)
              replace HO_z0 := Lib.hid (tySpentList.onext HO_z0.out hb)
              replace HO_z2 := Lib.hid (tyToken.onext HO_z2.out hb)
              replace HOr := Lib.hid (tySpentList.onext HOr.out hb)
              replace HR := Lib.hid (HR.out.trans (hb.mono HR.out.size))
              clear hb d0
              have d0 := HSr.out _ HR.out
              refine hK.out _ _ (Or.inr d0) ?_
              clear hK K
              try simp only [Act.put, List.setIfInBounds_toArray, List.set_cons_zero, List.set_cons_succ]
              obtain ⟨x4, hwa⟩ : ∃ x, x = x3.alloc (.cells #[.int .i64 0, .slice none 0 0] 26) := ⟨_, rfl⟩
              obtain ⟨E, hE⟩ : ∃ x, x = x3.heap.size := ⟨_, rfl⟩
              rw [← hwa] at HE0 HR d0 HO_z0 HO_z2 HOr HFr ⊢
              rw [← hE] at HE0 HEl HFr ⊢
              have HE := HE0
              clear hwa hE HE0
              obtain ⟨wz, hwz⟩ : ∃ x, x = x4 := ⟨_, rfl⟩
              rw [← hwz] at HE HR HOr HFr d0 ⊢
              clear hwz
              have q0 := (blk_cell HE.out 0).trans (cell2_0 _ _)
              have f0 := blk_free HE.out 0
              have q1 := (blk_cell HE.out 1).trans (cell2_1 _ _)
              have f1 := blk_free HE.out 1
              have s0t : (wz.setCell ⟨E, 0, none⟩ (.int .i64 Y0.1)).heap[E]? = some (.cells #[.int .i64 Y0.1, .slice none 0 0] 26 (0, 0)) := blk_set HE.out 0 (.int .i64 Y0.1)
              have s1t : ((wz.setCell ⟨E, 0, none⟩ (.int .i64 Y0.1)).setCell ⟨E, 1, none⟩ (.slice ar_1 Y0.2.length nr_1)).heap[E]? = some (.cells #[.int .i64 Y0.1, .slice ar_1 Y0.2.length nr_1] 26 (0, 0)) := blk_set s0t 1 (.slice ar_1 Y0.2.length nr_1)
              have t3 : wz.grownBy ((wz.setCell ⟨E, 0, none⟩ (.int .i64 Y0.1)).setCell ⟨E, 1, none⟩ (.slice ar_1 Y0.2.length nr_1)) (some E) := grown_trans (grown_set _ _ _ _) (grown_set _ _ _ _)
              have R9 := Lib.hid (HR.out.grown t3 HR.out.size (fun k hk => by injection hk with hk; have := HEl.out; omega))
              have O9 := Lib.hid (tySpentList.okept (G := fun b => b = E) HOr.out (KeptF.of_grown t3 (fun b h => by injection h with h; exact h.symm)) (fun b hb h => (HFr.out b hb).2 h))
              have F9 : Hid (∀ b, F_r b → (w13_.heap.size ≤ b ∧ b < ((wz.setCell ⟨E, 0, none⟩ (.int .i64 Y0.1)).setCell ⟨E, 1, none⟩ (.slice ar_1 Y0.2.length nr_1)).heap.size) ∧ b ≠ E) := Lib.hid (fun b h => ⟨⟨(HFr.out b h).1.1, Nat.lt_of_lt_of_le (HFr.out b h).1.2 t3.size⟩, (HFr.out b h).2⟩)
              have d9 := HSr.out _ R9.out
              have T9 := Lib.hid s1t
              clear t3 s0t s1t
              apply Till.one (i := 10)
              · kernel_rfl
              · simp only [List.getElem?_toArray, List.getElem?_cons_succ, List.getElem?_cons_zero]
                rfl
              intro K hK
              go_simp
              skip
              refine hK.out _ _ (Or.inr d9) ?_
              clear hK K
              try simp only [Act.put, List.setIfInBounds_toArray, List.set_cons_zero, List.set_cons_succ]
              apply Till.one (i := 11)
              · kernel_rfl
              · simp only [List.getElem?_toArray, List.getElem?_cons_succ, List.getElem?_cons_zero]
                rfl
              intro K hK
              go_simp
              skip
              refine hK.out _ _ (Or.inl (by rfl)) ?_
              clear hK K
              try simp only [Act.put, List.setIfInBounds_toArray, List.set_cons_zero, List.set_cons_succ]
              refine Till.done (by kernel_rfl) ?_ _
              clear q0 f0 q1 f1 d9
              obtain ⟨wy, hwy⟩ : ∃ x, x = ((wz.setCell ⟨E, 0, none⟩ (.int .i64 Y0.1)).setCell ⟨E, 1, none⟩ (.slice ar_1 Y0.2.length nr_1)) := ⟨_, rfl⟩
              rw [← hwy] at T9 R9 O9 F9 ⊢
              clear hwy
              go_wp2_with fail
              go_meet
              case rel => exact ⟨E, ar_1, nr_1, F_r, _, rfl, rfl, rfl, T9.out, O9.out, F9.out, HEl.out, R9.out⟩
            · intro K0 hK
              go_simp
              have hb : Below x2.heap.size x2 (x2.alloc (.cells #[.int .i64 0, .slice none 0 0] 26)) := (Below.refl _ _).alloc (Nat.le_refl _) _
              have HE0 := Lib.hid (heap_alloc_new x2 (.cells #[.int .i64 0, .slice none 0 0] 26))
              have HEl := Lib.hid HR.out.size
              replace HO_z0 := Lib.hid (tySpentList.onext HO_z0.out hb)
              replace HO_z2 := Lib.hid (tyToken.onext HO_z2.out hb)
              replace HR := Lib.hid (HR.out.trans (hb.mono HR.out.size))
              clear hb d0
              have d0 := HSr.out _ HR.out
              refine hK.out _ _ (Or.inr d0) ?_
              clear hK K0
              try simp only [Act.put, List.setIfInBounds_toArray, List.set_cons_zero, List.set_cons_succ]
              obtain ⟨x5, hwa⟩ : ∃ x, x = x2.alloc (.cells #[.int .i64 0, .slice none 0 0] 26) := ⟨_, rfl⟩
              obtain ⟨E, hE⟩ : ∃ x, x = x2.heap.size := ⟨_, rfl⟩
              rw [← hwa] at HE0 HR d0 HO_z0 HO_z2 ⊢
              rw [← hE] at HE0 HEl ⊢
              have HE := HE0
              clear hwa hE HE0
              apply Till.one (i := 5)
              · kernel_rfl
              · simp only [List.getElem?_toArray, List.getElem?_cons_succ, List.getElem?_cons_zero]
                rfl
              intro K hK
              go_simp
              refine (impl_spt_t (tySpentList.ord HO_z0.out) (Nat.le_refl _) (tyToken.ord HO_z2.out) (Nat.le_refl _) W1.out B0t.out).mono ?_
              rintro e' x6 ⟨c_r, F_r, he, hO_r, hF_r, hb⟩
              replace hO_r : tySpentList.own F_r x6 c_r ((s0.1, spL s0.1 s0.2 a1 s2.1 s2.2)) := hO_r
              rw [← HY0.out] at hO_r
              rw [← HY1.out] at he
              subst he
              obtain ⟨ar_1, nr_1, _, rfl, _⟩ := own_SpentList hO_r
              have HFr : Hid (∀ b, F_r b → (w13_.heap.size ≤ b ∧ b < x6.heap.size) ∧ b ≠ E) := Lib.hid (fun b h => ⟨⟨Nat.le_trans HR.out.size (hF_r b h).1, (hF_r b h).2⟩, by have := (hF_r b h).1; have := lt_of_block HE.out; omega⟩)
              replace HO_z0 := Lib.hid (tySpentList.onext HO_z0.out hb)
              replace HO_z2 := Lib.hid (tyToken.onext HO_z2.out hb)
              replace HE := Lib.hid ((hb.block _ (lt_of_block HE.out)).trans HE.out)
              replace HR := Lib.hid (HR.out.trans (hb.mono HR.out.size))
              clear hb d0
              have d0 := HSr.out _ HR.out
              have HOr := Lib.hid hO_r
              clear hO_r hF_r
              refine hK.out _ _ (Or.inr d0) ?_
              clear hK K
              try simp only [Act.put, List.setIfInBounds_toArray, List.set_cons_zero, List.set_cons_succ]
              apply Till.take (i := 6) [6, 8, 11]
              · simp only [List.getElem?_toArray, List.getElem?_cons_succ, List.getElem?_cons_zero]
                rfl
              · kernel_rfl
              · kernel_rfl
              · kernel_rfl
              · kernel_rfl
              · exact fun _ _ _ h => h
              · first
                  | exact Or.inr ⟨by rfl, rfl⟩
                  | (refine Or.inl ⟨by rfl, fun wq hwq => ?_⟩
                     dsimp only at hwq
                     go_simp
                     first
                       | done
                       | rfl)
              · exact d0
              simp only [Act.put, List.setIfInBounds_toArray, List.set_cons_zero, List.set_cons_succ]
              apply Till.take (i := 7) [7, 10, 11]
              · simp only [List.getElem?_toArray, List.getElem?_cons_succ, List.getElem?_cons_zero]
                rfl
              · kernel_rfl
              · kernel_rfl
              · kernel_rfl
              · kernel_rfl
              · exact fun _ _ _ h => h
              · first
                  | exact Or.inr ⟨by rfl, rfl⟩
                  | (refine Or.inl ⟨by rfl, fun wq hwq => ?_⟩
                     dsimp only at hwq
                     go_simp
                     first
                       | done
                       | rfl)
              · exact d0
              simp only [Act.put, List.setIfInBounds_toArray, List.set_cons_zero, List.set_cons_succ]
              apply Till.take (i := 8) [8, 11]
              · simp only [List.getElem?_toArray, List.getElem?_cons_succ, List.getElem?_cons_zero]
                rfl
              · kernel_rfl
              · kernel_rfl
              · kernel_rfl
              · kernel_rfl
              · exact fun _ _ _ h => h
              · first
                  | exact Or.inr ⟨by rfl, rfl⟩
                  | (refine Or.inl ⟨by rfl, fun wq hwq => ?_⟩
                     dsimp only at hwq
                     go_simp
                     first
                       | done
                       | rfl)
              · exact d0
              simp only [Act.put, List.setIfInBounds_toArray, List.set_cons_zero, List.set_cons_succ]
              obtain ⟨wz, hwz⟩ : ∃ x, x = x6 := ⟨_, rfl⟩
              rw [← hwz] at HE HR HOr HFr d0 ⊢
              clear hwz
              have q0 := (blk_cell HE.out 0).trans (cell2_0 _ _)
              have f0 := blk_free HE.out 0
              have q1 := (blk_cell HE.out 1).trans (cell2_1 _ _)
              have f1 := blk_free HE.out 1
              have s0t : (wz.setCell ⟨E, 0, none⟩ (.int .i64 Y0.1)).heap[E]? = some (.cells #[.int .i64 Y0.1, .slice none 0 0] 26 (0, 0)) := blk_set HE.out 0 (.int .i64 Y0.1)
              have s1t : ((wz.setCell ⟨E, 0, none⟩ (.int .i64 Y0.1)).setCell ⟨E, 1, none⟩ (.slice ar_1 Y0.2.length nr_1)).heap[E]? = some (.cells #[.int .i64 Y0.1, .slice ar_1 Y0.2.length nr_1] 26 (0, 0)) := blk_set s0t 1 (.slice ar_1 Y0.2.length nr_1)
              have t3 : wz.grownBy ((wz.setCell ⟨E, 0, none⟩ (.int .i64 Y0.1)).setCell ⟨E, 1, none⟩ (.slice ar_1 Y0.2.length nr_1)) (some E) := grown_trans (grown_set _ _ _ _) (grown_set _ _ _ _)
              have R9 := Lib.hid (HR.out.grown t3 HR.out.size (fun k hk => by injection hk with hk; have := HEl.out; omega))
              have O9 := Lib.hid (tySpentList.okept (G := fun b => b = E) HOr.out (KeptF.of_grown t3 (fun b h => by injection h with h; exact h.symm)) (fun b hb h => (HFr.out b hb).2 h))
              have F9 : Hid (∀ b, F_r b → (w13_.heap.size ≤ b ∧ b < ((wz.setCell ⟨E, 0, none⟩ (.int .i64 Y0.1)).setCell ⟨E, 1, none⟩ (.slice ar_1 Y0.2.length nr_1)).heap.size) ∧ b ≠ E) := Lib.hid (fun b h => ⟨⟨(HFr.out b h).1.1, Nat.lt_of_lt_of_le (HFr.out b h).1.2 t3.size⟩, (HFr.out b h).2⟩)
              have d9 := HSr.out _ R9.out
              have T9 := Lib.hid s1t
              clear t3 s0t s1t
              apply Till.one (i := 10)
              · kernel_rfl
              · simp only [List.getElem?_toArray, List.getElem?_cons_succ, List.getElem?_cons_zero]
                rfl
              intro K hK
              go_simp
              skip
              refine hK.out _ _ (Or.inr d9) ?_
              clear hK K
              try simp only [Act.put, List.setIfInBounds_toArray, List.set_cons_zero, List.set_cons_succ]
              apply Till.one (i := 11)
              · kernel_rfl
              · simp only [List.getElem?_toArray, List.getElem?_cons_succ, List.getElem?_cons_zero]
                rfl
              intro K hK
              go_simp
              skip
              refine hK.out _ _ (Or.inl (by rfl)) ?_
              clear hK K
              try simp only [Act.put, List.setIfInBounds_toArray, List.set_cons_zero, List.set_cons_succ]
              refine Till.done (by kernel_rfl) ?_ _
              clear q0 f0 q1 f1 d9
              obtain ⟨wy, hwy⟩ : ∃ x, x = ((wz.setCell ⟨E, 0, none⟩ (.int .i64 Y0.1)).setCell ⟨E, 1, none⟩ (.slice ar_1 Y0.2.length nr_1)) := ⟨_, rfl⟩
              rw [← hwy] at T9 R9 O9 F9 ⊢
              clear hwy
              go_wp2_with fail
              go_meet
              case rel => exact ⟨E, ar_1, nr_1, F_r, _, rfl, rfl, rfl, T9.out, O9.out, F9.out, HEl.out, R9.out⟩
          · intro K0 hK
            go_simp
            have hb : Below x1.heap.size x1 (x1.alloc (.cells #[.int .i64 0, .slice none 0 0] 26)) := (Below.refl _ _).alloc (Nat.le_refl _) _
            have HE0 := Lib.hid (heap_alloc_new x1 (.cells #[.int .i64 0, .slice none 0 0] 26))
            have HEl := Lib.hid HR.out.size
            replace HO_z0 := Lib.hid (tySpentList.onext HO_z0.out hb)
            replace HR := Lib.hid (HR.out.trans (hb.mono HR.out.size))
            clear hb d0
            have d0 := HSr.out _ HR.out
            refine hK.out _ _ (Or.inr d0) ?_
            clear hK K0
            try simp only [Act.put, List.setIfInBounds_toArray, List.set_cons_zero, List.set_cons_succ]
            obtain ⟨x7, hwa⟩ : ∃ x, x = x1.alloc (.cells #[.int .i64 0, .slice none 0 0] 26) := ⟨_, rfl⟩
            obtain ⟨E, hE⟩ : ∃ x, x = x1.heap.size := ⟨_, rfl⟩
            rw [← hwa] at HE0 HR d0 HO_z0 ⊢
            rw [← hE] at HE0 HEl ⊢
            have HE := HE0
            clear hwa hE HE0
            apply Till.one (i := 4)
            · kernel_rfl
            · simp only [List.getElem?_toArray, List.getElem?_cons_succ, List.getElem?_cons_zero]
              rfl
            intro K hK
            go_simp
            refine (toToken_any (tyToken.behind A2.out (HR.out.mono HB.out.size)) (Nat.le_trans HB.out.size HR.out.size) (show (0 : Nat) ≤ 1073741824 by decide)).mono ?_
            rintro e' x8 ⟨c_z2, he, hO_z2, hb⟩
            subst he
            obtain ⟨rfl, _⟩ := own_Token hO_z2
            replace HO_z0 := Lib.hid (tySpentList.onext HO_z0.out hb)
            replace HE := Lib.hid ((hb.block _ (lt_of_block HE.out)).trans HE.out)
            replace HR := Lib.hid (HR.out.trans (hb.mono HR.out.size))
            clear hb d0
            have d0 := HSr.out _ HR.out
            have HO_z2 := Lib.hid hO_z2
            clear hO_z2
            refine hK.out _ _ (Or.inr d0) ?_
            clear hK K
            try simp only [Act.put, List.setIfInBounds_toArray, List.set_cons_zero, List.set_cons_succ]
            apply Till.one (i := 5)
            · kernel_rfl
            · simp only [List.getElem?_toArray, List.getElem?_cons_succ, List.getElem?_cons_zero]
              rfl
            intro K hK
            go_simp
            refine (impl_spt_t (tySpentList.ord HO_z0.out) (Nat.le_refl _) (tyToken.ord HO_z2.out) (Nat.le_refl _) W1.out B0t.out).mono ?_
            rintro e' x9 ⟨c_r, F_r, he, hO_r, hF_r, hb⟩
            replace hO_r : tySpentList.own F_r x9 c_r ((s0.1, spL s0.1 s0.2 a1 s2.1 s2.2)) := hO_r
            rw [← HY0.out] at hO_r
            rw [← HY1.out] at he
            subst he
            obtain ⟨ar_1, nr_1, _, rfl, _⟩ := own_SpentList hO_r
            have HFr : Hid (∀ b, F_r b → (w13_.heap.size ≤ b ∧ b < x9.heap.size) ∧ b ≠ E) := Lib.hid (fun b h => ⟨⟨Nat.le_trans HR.out.size (hF_r b h).1, (hF_r b h).2⟩, by have := (hF_r b h).1; have := lt_of_block HE.out; omega⟩)
            replace HO_z0 := Lib.hid (tySpentList.onext HO_z0.out hb)
            replace HO_z2 := Lib.hid (tyToken.onext HO_z2.out hb)
            replace HE := Lib.hid ((hb.block _ (lt_of_block HE.out)).trans HE.out)
            replace HR := Lib.hid (HR.out.trans (hb.mono HR.out.size))
            clear hb d0
            have d0 := HSr.out _ HR.out
            have HOr := Lib.hid hO_r
            clear hO_r hF_r
            refine hK.out _ _ (Or.inr d0) ?_
            clear hK K
            try simp only [Act.put, List.setIfInBounds_toArray, List.set_cons_zero, List.set_cons_succ]
            apply Till.take (i := 6) [6, 8, 11]
            · simp only [List.getElem?_toArray, List.getElem?_cons_succ, List.getElem?_cons_zero]
              rfl
            · kernel_rfl
            · kernel_rfl
            · kernel_rfl
            · kernel_rfl
            · exact fun _ _ _ h => h
            · first
                | exact Or.inr ⟨by rfl, rfl⟩
                | (refine Or.inl ⟨by rfl, fun wq hwq => ?_⟩
                   dsimp only at hwq
                   go_simp
                   first
                     | done
                     | rfl)
            · exact d0
            simp only [Act.put, List.setIfInBounds_toArray, List.set_cons_zero, List.set_cons_succ]
            apply Till.take (i := 7) [7, 10, 11]
            · simp only [List.getElem?_toArray, List.getElem?_cons_succ, List.getElem?_cons_zero]
              rfl
            · kernel_rfl
            · kernel_rfl
            · kernel_rfl
            · kernel_rfl
            · exact fun _ _ _ h => h
            · first
                | exact Or.inr ⟨by rfl, rfl⟩
                | (refine Or.inl ⟨by rfl, fun wq hwq => ?_⟩
                   dsimp only at hwq
                   go_simp
                   first
                     | done
                     | rfl)
            · exact d0
            simp only [Act.put, List.setIfInBounds_toArray, List.set_cons_zero, List.set_cons_succ]
            apply Till.take (i := 8) [8, 11]
            · simp only [List.getElem?_toArray, List.getElem?_cons_succ, List.getElem?_cons_zero]
              rfl
            · kernel_rfl
            · kernel_rfl
            · kernel_rfl
            · kernel_rfl
            · exact fun _ _ _ h => h
            · first
                | exact Or.inr ⟨by rfl, rfl⟩
                | (refine Or.inl ⟨by rfl, fun wq hwq => ?_⟩
                   dsimp only at hwq
                   go_simp
                   first
                     | done
                     | rfl)
            · exact d0
            simp only [Act.put, List.setIfInBounds_toArray, List.set_cons_zero, List.set_cons_succ]
            obtain ⟨wz, hwz⟩ : ∃ x, x = x9 := ⟨_, rfl⟩
            rw [← hwz] at HE HR HOr HFr d0 ⊢
            clear hwz
            have q0 := (blk_cell HE.out 0).trans (cell2_0 _ _)
            have f0 := blk_free HE.out 0
            have q1 := (blk_cell HE.out 1).trans (cell2_1 _ _)
            have f1 := blk_free HE.out 1
            have s0t : (wz.setCell ⟨E, 0, none⟩ (.int .i64 Y0.1)).heap[E]? = some (.cells #[.int .i64 Y0.1, .slice none 0 0] 26 (0, 0)) := blk_set HE.out 0 (.int .i64 Y0.1)
            have s1t : ((wz.setCell ⟨E, 0, none⟩ (.int .i64 Y0.1)).setCell ⟨E, 1, none⟩ (.slice ar_1 Y0.2.length nr_1)).heap[E]? = some (.cells #[.int .i64 Y0.1, .slice ar_1 Y0.2.length nr_1] 26 (0, 0)) := blk_set s0t 1 (.slice ar_1 Y0.2.length nr_1)
            have t3 : wz.grownBy ((wz.setCell ⟨E, 0, none⟩ (.int .i64 Y0.1)).setCell ⟨E, 1, none⟩ (.slice ar_1 Y0.2.length nr_1)) (some E) := grown_trans (grown_set _ _ _ _) (grown_set _ _ _ _)
            have R9 := Lib.hid (HR.out.grown t3 HR.out.size (fun k hk => by injection hk with hk; have := HEl.out; omega))
            have O9 := Lib.hid (tySpentList.okept (G := fun b => b = E) HOr.out (KeptF.of_grown t3 (fun b h => by injection h with h; exact h.symm)) (fun b hb h => (HFr.out b hb).2 h))
            have F9 : Hid (∀ b, F_r b → (w13_.heap.size ≤ b ∧ b < ((wz.setCell ⟨E, 0, none⟩ (.int .i64 Y0.1)).setCell ⟨E, 1, none⟩ (.slice ar_1 Y0.2.length nr_1)).heap.size) ∧ b ≠ E) := Lib.hid (fun b h => ⟨⟨(HFr.out b h).1.1, Nat.lt_of_lt_of_le (HFr.out b h).1.2 t3.size⟩, (HFr.out b h).2⟩)
            have d9 := HSr.out _ R9.out
            have T9 := Lib.hid s1t
            clear t3 s0t s1t
            apply Till.one (i := 10)
            · kernel_rfl
            · simp only [List.getElem?_toArray, List.getElem?_cons_succ, List.getElem?_cons_zero]
              rfl
            intro K hK
            go_simp
            skip
            refine hK.out _ _ (Or.inr d9) ?_
            clear hK K
            try simp only [Act.put, List.setIfInBounds_toArray, List.set_cons_zero, List.set_cons_succ]
            apply Till.one (i := 11)
            · kernel_rfl
            · simp only [List.getElem?_toArray, List.getElem?_cons_succ, List.getElem?_cons_zero]
              rfl
            intro K hK
            go_simp
            skip
            refine hK.out _ _ (Or.inl (by rfl)) ?_
            clear hK K
            try simp only [Act.put, List.setIfInBounds_toArray, List.set_cons_zero, List.set_cons_succ]
            refine Till.done (by kernel_rfl) ?_ _
            clear q0 f0 q1 f1 d9
            obtain ⟨wy, hwy⟩ : ∃ x, x = ((wz.setCell ⟨E, 0, none⟩ (.int .i64 Y0.1)).setCell ⟨E, 1, none⟩ (.slice ar_1 Y0.2.length nr_1)) := ⟨_, rfl⟩
            rw [← hwy] at T9 R9 O9 F9 ⊢
            clear hwy
            go_wp2_with fail
            go_meet
            case rel => exact ⟨E, ar_1, nr_1, F_r, _, rfl, rfl, rfl, T9.out, O9.out, F9.out, HEl.out, R9.out⟩
        · intro K0 hK
          go_simp
          have hb : Below wd.heap.size wd (wd.alloc (.cells #[.int .i64 0, .slice none 0 0] 26)) := (Below.refl _ _).alloc (Nat.le_refl _) _
          have HE0 := Lib.hid (heap_alloc_new wd (.cells #[.int .i64 0, .slice none 0 0] 26))
          have HEl := Lib.hid HR.out.size
          replace HR := Lib.hid (HR.out.trans (hb.mono HR.out.size))
          clear hb d0
          have d0 := HSr.out _ HR.out
          refine hK.out _ _ (Or.inr d0) ?_
          clear hK K0
          try simp only [Act.put, List.setIfInBounds_toArray, List.set_cons_zero, List.set_cons_succ]
          obtain ⟨x10, hwa⟩ : ∃ x, x = wd.alloc (.cells #[.int .i64 0, .slice none 0 0] 26) := ⟨_, rfl⟩
          obtain ⟨E, hE⟩ : ∃ x, x = wd.heap.size := ⟨_, rfl⟩
          rw [← hwa] at HE0 HR d0 ⊢
          rw [← hE] at HE0 HEl ⊢
          have HE := HE0
          clear hwa hE HE0
          apply Till.one (i := 1)
          · kernel_rfl
          · simp only [List.getElem?_toArray, List.getElem?_cons_succ, List.getElem?_cons_zero]
            rfl
          intro K hK
          go_simp
          refine (toSpentList_any (tySpentList.behind A0.out (HR.out.mono HB.out.size)) (Nat.le_trans HB.out.size HR.out.size) (Nat.le_trans B0t.out (by decide))).mono ?_
          rintro e' x11 ⟨c_z0, he, hO_z0, hb⟩
          subst he
          obtain ⟨az0_1, nz0_1, _, rfl, _⟩ := own_SpentList hO_z0
          replace HE := Lib.hid ((hb.block _ (lt_of_block HE.out)).trans HE.out)
          replace HR := Lib.hid (HR.out.trans (hb.mono HR.out.size))
          clear hb d0
          have d0 := HSr.out _ HR.out
          have HO_z0 := Lib.hid hO_z0
          clear hO_z0
          refine hK.out _ _ (Or.inr d0) ?_
          clear hK K
          try simp only [Act.put, List.setIfInBounds_toArray, List.set_cons_zero, List.set_cons_succ]
          apply Till.one (i := 4)
          · kernel_rfl
          · simp only [List.getElem?_toArray, List.getElem?_cons_succ, List.getElem?_cons_zero]
            rfl
          intro K hK
          go_simp
          refine (toToken_any (tyToken.behind A2.out (HR.out.mono HB.out.size)) (Nat.le_trans HB.out.size HR.out.size) (show (0 : Nat) ≤ 1073741824 by decide)).mono ?_
          rintro e' x12 ⟨c_z2, he, hO_z2, hb⟩
          subst he
          obtain ⟨rfl, _⟩ := own_Token hO_z2
          replace HO_z0 := Lib.hid (tySpentList.onext HO_z0.out hb)
          replace HE := Lib.hid ((hb.block _ (lt_of_block HE.out)).trans HE.out)
          replace HR := Lib.hid (HR.out.trans (hb.mono HR.out.size))
          clear hb d0
          have d0 := HSr.out _ HR.out
          have HO_z2 := Lib.hid hO_z2
          clear hO_z2
          refine hK.out _ _ (Or.inr d0) ?_
          clear hK K
          try simp only [Act.put, List.setIfInBounds_toArray, List.set_cons_zero, List.set_cons_succ]
          apply Till.one (i := 5)
          · kernel_rfl
          · simp only [List.getElem?_toArray, List.getElem?_cons_succ, List.getElem?_cons_zero]
            rfl
          intro K hK
          go_simp
          refine (impl_spt_t (tySpentList.ord HO_z0.out) (Nat.le_refl _) (tyToken.ord HO_z2.out) (Nat.le_refl _) W1.out B0t.out).mono ?_
          rintro e' x13 ⟨c_r, F_r, he, hO_r, hF_r, hb⟩
          replace hO_r : tySpentList.own F_r x13 c_r ((s0.1, spL s0.1 s0.2 a1 s2.1 s2.2)) := hO_r
          rw [← HY0.out] at hO_r
          rw [← HY1.out] at he
          subst he
          obtain ⟨ar_1, nr_1, _, rfl, _⟩ := own_SpentList hO_r
          have HFr : Hid (∀ b, F_r b → (w13_.heap.size ≤ b ∧ b < x13.heap.size) ∧ b ≠ E) := Lib.hid (fun b h => ⟨⟨Nat.le_trans HR.out.size (hF_r b h).1, (hF_r b h).2⟩, by have := (hF_r b h).1; have := lt_of_block HE.out; omega⟩)
          replace HO_z0 := Lib.hid (tySpentList.onext HO_z0.out hb)
          replace HO_z2 := Lib.hid (tyToken.onext HO_z2.out hb)
          replace HE := Lib.hid ((hb.block _ (lt_of_block HE.out)).trans HE.out)
          replace HR := Lib.hid (HR.out.trans (hb.mono HR.out.size))
          clear hb d0
          have d0 := HSr.out _ HR.out
          have HOr := Lib.hid hO_r
          clear hO_r hF_r
          refine hK.out _ _ (Or.inr d0) ?_
          clear hK K
          try simp only [Act.put, List.setIfInBounds_toArray, List.set_cons_zero, List.set_cons_succ]
          apply Till.take (i := 6) [6, 8, 11]
          · simp only [List.getElem?_toArray, List.getElem?_cons_succ, List.getElem?_cons_zero]
            rfl
          · kernel_rfl
          · kernel_rfl
          · kernel_rfl
          · kernel_rfl
          · exact fun _ _ _ h => h
          · first
              | exact Or.inr ⟨by rfl, rfl⟩
              | (refine Or.inl ⟨by rfl, fun wq hwq => ?_⟩
                 dsimp only at hwq
                 go_simp
                 first
                   | done
                   | rfl)
          · exact d0
          simp only [Act.put, List.setIfInBounds_toArray, List.set_cons_zero, List.set_cons_succ]
          apply Till.take (i := 7) [7, 10, 11]
          · simp only [List.getElem?_toArray, List.getElem?_cons_succ, List.getElem?_cons_zero]
            rfl
          · kernel_rfl
          · kernel_rfl
          · kernel_rfl
          · kernel_rfl
          · exact fun _ _ _ h => h
          · first
              | exact Or.inr ⟨by rfl, rfl⟩
              | (refine Or.inl ⟨by rfl, fun wq hwq => ?_⟩
                 dsimp only at hwq
                 go_simp
                 first
                   | done
                   | rfl)
          · exact d0
          simp only [Act.put, List.setIfInBounds_toArray, List.set_cons_zero, List.set_cons_succ]
          apply Till.take (i := 8) [8, 11]
          · simp only [List.getElem?_toArray, List.getElem?_cons_succ, List.getElem?_cons_zero]
            rfl
          · kernel_rfl
          · kernel_rfl
          · kernel_rfl
          · kernel_rfl
          · exact fun _ _ _ h => h
          · first
              | exact Or.inr ⟨by rfl, rfl⟩
              | (refine Or.inl ⟨by rfl, fun wq hwq => ?_⟩
                 dsimp only at hwq
                 go_simp
                 first
                   | done
                   | rfl)
          · exact d0
          simp only [Act.put, List.setIfInBounds_toArray, List.set_cons_zero, List.set_cons_succ]
          obtain ⟨wz, hwz⟩ : ∃ x, x = x13 := ⟨_, rfl⟩
          rw [← hwz] at HE HR HOr HFr d0 ⊢
          clear hwz
          have q0 := (blk_cell HE.out 0).trans (cell2_0 _ _)
          have f0 := blk_free HE.out 0
          have q1 := (blk_cell HE.out 1).trans (cell2_1 _ _)
          have f1 := blk_free HE.out 1
          have s0t : (wz.setCell ⟨E, 0, none⟩ (.int .i64 Y0.1)).heap[E]? = some (.cells #[.int .i64 Y0.1, .slice none 0 0] 26 (0, 0)) := blk_set HE.out 0 (.int .i64 Y0.1)
          have s1t : ((wz.setCell ⟨E, 0, none⟩ (.int .i64 Y0.1)).setCell ⟨E, 1, none⟩ (.slice ar_1 Y0.2.length nr_1)).heap[E]? = some (.cells #[.int .i64 Y0.1, .slice ar_1 Y0.2.length nr_1] 26 (0, 0)) := blk_set s0t 1 (.slice ar_1 Y0.2.length nr_1)
          have t3 : wz.grownBy ((wz.setCell ⟨E, 0, none⟩ (.int .i64 Y0.1)).setCell ⟨E, 1, none⟩ (.slice ar_1 Y0.2.length nr_1)) (some E) := grown_trans (grown_set _ _ _ _) (grown_set _ _ _ _)
          have R9 := Lib.hid (HR.out.grown t3 HR.out.size (fun k hk => by injection hk with hk; have := HEl.out; omega))
          have O9 := Lib.hid (tySpentList.okept (G := fun b => b = E) HOr.out (KeptF.of_grown t3 (fun b h => by injection h with h; exact h.symm)) (fun b hb h => (HFr.out b hb).2 h))
          have F9 : Hid (∀ b, F_r b → (w13_.heap.size ≤ b ∧ b < ((wz.setCell ⟨E, 0, none⟩ (.int .i64 Y0.1)).setCell ⟨E, 1, none⟩ (.slice ar_1 Y0.2.length nr_1)).heap.size) ∧ b ≠ E) := Lib.hid (fun b h => ⟨⟨(HFr.out b h).1.1, Nat.lt_of_lt_of_le (HFr.out b h).1.2 t3.size⟩, (HFr.out b h).2⟩)
          have d9 := HSr.out _ R9.out
          have T9 := Lib.hid s1t
          clear t3 s0t s1t
          apply Till.one (i := 10)
          · kernel_rfl
          · simp only [List.getElem?_toArray, List.getElem?_cons_succ, List.getElem?_cons_zero]
            rfl
          intro K hK
          go_simp
          skip
          refine hK.out _ _ (Or.inr d9) ?_
          clear hK K
          try simp only [Act.put, List.setIfInBounds_toArray, List.set_cons_zero, List.set_cons_succ]
          apply Till.one (i := 11)
          · kernel_rfl
          · simp only [List.getElem?_toArray, List.getElem?_cons_succ, List.getElem?_cons_zero]
            rfl
          intro K hK
          go_simp
          skip
          refine hK.out _ _ (Or.inl (by rfl)) ?_
          clear hK K
          try simp only [Act.put, List.setIfInBounds_toArray, List.set_cons_zero, List.set_cons_succ]
          refine Till.done (by kernel_rfl) ?_ _
          clear q0 f0 q1 f1 d9
          obtain ⟨wy, hwy⟩ : ∃ x, x = ((wz.setCell ⟨E, 0, none⟩ (.int .i64 Y0.1)).setCell ⟨E, 1, none⟩ (.slice ar_1 Y0.2.length nr_1)) := ⟨_, rfl⟩
          rw [← hwy] at T9 R9 O9 F9 ⊢
          clear hwy
          go_wp2_with fail
          go_meet
          case rel => exact ⟨E, ar_1, nr_1, F_r, _, rfl, rfl, rfl, T9.out, O9.out, F9.out, HEl.out, R9.out⟩
      case rest =>
        obtain ⟨Q_h0, ah0_1, nh0_1, F_h0, w14_, hww, rfl, rfl, hK, hO_h0, hF2_h0, hEl, hb⟩ := hcut
        subst hww
        have hF_h0 := fun b h => (hF2_h0 b h).1
        have D_h0 : Hid (∀ b, F_h0 b → w.heap.size ≤ b) := Lib.hid (fun b h => Nat.le_trans HB.out.size (hF_h0 b h).1)
        replace A0 := Lib.hid (tySpentList.behind A0.out (hb.mono HB.out.size))
        replace A2 := Lib.hid (tyToken.behind A2.out (hb.mono HB.out.size))
        replace O_w0 := Lib.hid (tySpentList.onext O_w0.out hb)
        replace E_w0 : Hid (∀ b, F_w0 b → b < w14_.heap.size) := Lib.hid (fun b h => Nat.lt_of_lt_of_le (E_w0.out b h) hb.size)
        replace O_g0 := Lib.hid (tySpentList.onext O_g0.out hb)
        replace E_g0 : Hid (∀ b, F_g0 b → b < w14_.heap.size) := Lib.hid (fun b h => Nat.lt_of_lt_of_le (E_g0.out b h) hb.size)
        replace K_p0 := Lib.hid ((hb.block _ (lt_of_block K_p0.out)).trans K_p0.out)
        replace K_p2 := Lib.hid ((hb.block _ (lt_of_block K_p2.out)).trans K_p2.out)
        replace K_w0 := Lib.hid ((hb.block _ (lt_of_block K_w0.out)).trans K_w0.out)
        replace K_g0 := Lib.hid ((hb.block _ (lt_of_block K_g0.out)).trans K_g0.out)
        replace HB := Lib.hid (HB.out.trans (hb.mono HB.out.size))
        clear hb
        have O_h0 := Lib.hid hO_h0
        have E_h0 : Hid (∀ b, F_h0 b → b < w14_.heap.size) := Lib.hid (fun b h => (hF_h0 b h).2)
        have K_h0 := Lib.hid hK
        clear hO_h0 hF_h0 hF2_h0 hK hEl
        clear A0
        clear K_p0
        clear N_p0_g0
        clear A2
        clear K_p2
        clear N_p2_g0
        -- ('eq', 'SpentList', ('own', 'h0'), ('own', 'w0'))
        have k_w0_0 := blk_cell K_w0.out 0
        rw [cell2_0] at k_w0_0
        have k_w0_1 := blk_cell K_w0.out 1
        rw [cell2_1] at k_w0_1
        have k_g0_0 := blk_cell K_g0.out 0
        rw [cell2_0] at k_g0_0
        have k_g0_1 := blk_cell K_g0.out 1
        rw [cell2_1] at k_g0_1
        have k_h0_0 := blk_cell K_h0.out 0
        rw [cell2_0] at k_h0_0
        have k_h0_1 := blk_cell K_h0.out 1
        rw [cell2_1] at k_h0_1
        go_wp2_with fail
        clear k_w0_0 k_w0_1 k_g0_0 k_g0_1 k_h0_0 k_h0_1
        refine (eqSpentList_same (tySpentList.ord O_h0.out) (tySpentList.ord O_w0.out) (Nat.le_refl _) (Nat.le_refl _)).mono ?_
        rintro e w15_ ⟨he, hb⟩
        subst he
        replace O_w0 := Lib.hid (tySpentList.onext O_w0.out hb)
        replace E_w0 : Hid (∀ b, F_w0 b → b < w15_.heap.size) := Lib.hid (fun b h => Nat.lt_of_lt_of_le (E_w0.out b h) hb.size)
        replace O_g0 := Lib.hid (tySpentList.onext O_g0.out hb)
        replace E_g0 : Hid (∀ b, F_g0 b → b < w15_.heap.size) := Lib.hid (fun b h => Nat.lt_of_lt_of_le (E_g0.out b h) hb.size)
        replace O_h0 := Lib.hid (tySpentList.onext O_h0.out hb)
        replace E_h0 : Hid (∀ b, F_h0 b → b < w15_.heap.size) := Lib.hid (fun b h => Nat.lt_of_lt_of_le (E_h0.out b h) hb.size)
        replace K_w0 := Lib.hid ((hb.block _ (lt_of_block K_w0.out)).trans K_w0.out)
        replace K_g0 := Lib.hid ((hb.block _ (lt_of_block K_g0.out)).trans K_g0.out)
        replace K_h0 := Lib.hid ((hb.block _ (lt_of_block K_h0.out)).trans K_h0.out)
        replace HB := Lib.hid (HB.out.trans (hb.mono HB.out.size))
        clear hb
        clear O_w0 E_w0 D_w0
        clear X_w0_g0
        clear K_w0
        clear N_w0_g0
        clear O_h0 E_h0 D_h0
        clear K_h0
        -- ('set', 'q', '1')
        -- ('held', 'q', 'SpentList', 'g0', 'q')
        have k_g0_0 := blk_cell K_g0.out 0
        rw [cell2_0] at k_g0_0
        have k_g0_1 := blk_cell K_g0.out 1
        rw [cell2_1] at k_g0_1
        go_wp2_with fail
        clear k_g0_0 k_g0_1
        refine (heldSpentList_any (x := Y0) (k0 := 1) (tySpentList.ord O_g0.out) (Nat.le_refl _) (by omega) (by omega)).mono ?_
        rintro e w16_ ⟨he, hb⟩
        rw [← G10.out] at he
        subst he
        replace O_g0 := Lib.hid (tySpentList.onext O_g0.out hb)
        replace E_g0 : Hid (∀ b, F_g0 b → b < w16_.heap.size) := Lib.hid (fun b h => Nat.lt_of_lt_of_le (E_g0.out b h) hb.size)
        replace K_g0 := Lib.hid ((hb.block _ (lt_of_block K_g0.out)).trans K_g0.out)
        replace HB := Lib.hid (HB.out.trans (hb.mono HB.out.size))
        clear hb
        have dd16 : decide (K10 < 0) = false := by simp; omega
        clear O_g0 E_g0 D_g0
        clear N_g0_g0
        clear K_g0
        go_wp2_with fail
        go_ret
        exact ⟨rfl, HB.out⟩
        
end Go.Proofs.Ytdlbpeippmibcaa
