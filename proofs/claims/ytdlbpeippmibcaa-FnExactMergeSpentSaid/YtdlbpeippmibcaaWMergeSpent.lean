/- FnExactMergeSpent: the walk. No conditions. -/
import Derived.Test.YtdlbpeippmibcaaSpW
import Derived.Test.YtdlbpeippmibcaaCells
import Derived.Deep.RegionHeld3
import Derived.Deep.DeepCutAuto
namespace Go.Proofs.Ytdlbpeippmibcaa
open Go Go.RowKit
set_option linter.unusedVariables false
attribute [local irreducible] kh

set_option maxHeartbeats 4000000 in
set_option maxRecDepth 100000 in
theorem fnExactMergeSpent_walk (c0 : List Value) (s0 : VSpentList) (c1 : List Value) (s1 : VSpentList) (w : World) (w0 : tySpentList.rd w.heap.size w c0 s0) (w1 : tySpentList.rd w.heap.size w c1 s1) :
    Calls Try.prog 10 #[.agg c0.toArray, .agg c1.toArray] w fun e w' => e = .returned (.bool true) ∧ Below w.heap.size w w' := by
  obtain ⟨a0_1, n0_1, rfl, _⟩ := rd_SpentList w0
  have A0 := Lib.hid w0
  clear w0
  obtain ⟨a1_1, n1_1, rfl, _⟩ := rd_SpentList w1
  have A1 := Lib.hid w1
  clear w1
  by_cases bz0 : (tySpentList.tot s0 : Int) ≤ (1048576 : Int)
  case neg =>
    have C0 := Lib.hid bz0
    clear bz0
    go_enter Try.func10, Try.ntmps10
    have hb := (((Below.refl w.heap.size w).alloc (Nat.le_refl _) (.cells #[.int .i64 s0.1, .slice a0_1 s0.2.length n0_1] 45)).alloc (by simp) (.cells #[.int .i64 s1.1, .slice a1_1 s1.2.length n1_1] 45))
    have KK := blocks2T w (.cells #[.int .i64 s0.1, .slice a0_1 s0.2.length n0_1] 45) (.cells #[.int .i64 s1.1, .slice a1_1 s1.2.length n1_1] 45)
    have K_p0 := Lib.hid KK.1
    have K_p1 := Lib.hid KK.2
    clear KK
    replace A0 := Lib.hid (tySpentList.behind A0.out hb)
    replace A1 := Lib.hid (tySpentList.behind A1.out hb)
    have HB := Lib.hid hb
    clear hb
    have k_p0_0 := blk_cell K_p0.out 0
    rw [cell2_0] at k_p0_0
    have k_p0_1 := blk_cell K_p0.out 1
    rw [cell2_1] at k_p0_1
    have k_p1_0 := blk_cell K_p1.out 0
    rw [cell2_0] at k_p1_0
    have k_p1_1 := blk_cell K_p1.out 1
    rw [cell2_1] at k_p1_1
    go_wp2_with fail
    clear k_p0_0 k_p0_1 k_p1_0 k_p1_1
    obtain ⟨w1_, hw⟩ : ∃ x, x = ((w.alloc (.cells #[.int .i64 s0.1, .slice a0_1 s0.2.length n0_1] 45)).alloc (.cells #[.int .i64 s1.1, .slice a1_1 s1.2.length n1_1] 45)) := ⟨_, rfl⟩
    rw [← hw] at HB A0 A1 K_p0 K_p1 ⊢
    clear hw
    refine (szSpentList_any A0.out (by omega) (by omega) HB.out.size).mono ?_
    rintro e w2_ ⟨he, hb⟩
    rw [if_neg (by have := C0.out; omega)] at he
    subst he
    replace A0 := Lib.hid (tySpentList.behind A0.out (hb.mono HB.out.size))
    replace A1 := Lib.hid (tySpentList.behind A1.out (hb.mono HB.out.size))
    replace K_p0 := Lib.hid ((hb.block _ (lt_of_block K_p0.out)).trans K_p0.out)
    replace K_p1 := Lib.hid ((hb.block _ (lt_of_block K_p1.out)).trans K_p1.out)
    replace HB := Lib.hid (HB.out.trans (hb.mono HB.out.size))
    clear hb
    have k_p0_0 := blk_cell K_p0.out 0
    rw [cell2_0] at k_p0_0
    have k_p0_1 := blk_cell K_p0.out 1
    rw [cell2_1] at k_p0_1
    have k_p1_0 := blk_cell K_p1.out 0
    rw [cell2_0] at k_p1_0
    have k_p1_1 := blk_cell K_p1.out 1
    rw [cell2_1] at k_p1_1
    go_wp2_with fail
    clear k_p0_0 k_p0_1 k_p1_0 k_p1_1
    go_ret
    exact ⟨rfl, HB.out⟩
  have C0 := Lib.hid bz0
  obtain ⟨q0, hq0⟩ : ∃ q : Int, q = (1048576 : Int) - (tySpentList.tot s0 : Int) := ⟨_, rfl⟩
  have d0q : decide (q0 < 0) = false := by simp; omega
  have e0q : 0 ≤ q0 ∧ q0 ≤ 1048576 := by omega
  have B0t : Hid (tySpentList.tot s0 ≤ 1048576) := Lib.hid (by omega)
  have H0q := Lib.hid hq0
  clear hq0 bz0
  by_cases bz1 : (tySpentList.tot s1 : Int) ≤ q0
  case neg =>
    have C1 := Lib.hid bz1
    clear bz1
    go_enter Try.func10, Try.ntmps10
    have hb := (((Below.refl w.heap.size w).alloc (Nat.le_refl _) (.cells #[.int .i64 s0.1, .slice a0_1 s0.2.length n0_1] 45)).alloc (by simp) (.cells #[.int .i64 s1.1, .slice a1_1 s1.2.length n1_1] 45))
    have KK := blocks2T w (.cells #[.int .i64 s0.1, .slice a0_1 s0.2.length n0_1] 45) (.cells #[.int .i64 s1.1, .slice a1_1 s1.2.length n1_1] 45)
    have K_p0 := Lib.hid KK.1
    have K_p1 := Lib.hid KK.2
    clear KK
    replace A0 := Lib.hid (tySpentList.behind A0.out hb)
    replace A1 := Lib.hid (tySpentList.behind A1.out hb)
    have HB := Lib.hid hb
    clear hb
    have k_p0_0 := blk_cell K_p0.out 0
    rw [cell2_0] at k_p0_0
    have k_p0_1 := blk_cell K_p0.out 1
    rw [cell2_1] at k_p0_1
    have k_p1_0 := blk_cell K_p1.out 0
    rw [cell2_0] at k_p1_0
    have k_p1_1 := blk_cell K_p1.out 1
    rw [cell2_1] at k_p1_1
    go_wp2_with fail
    clear k_p0_0 k_p0_1 k_p1_0 k_p1_1
    obtain ⟨w1_, hw⟩ : ∃ x, x = ((w.alloc (.cells #[.int .i64 s0.1, .slice a0_1 s0.2.length n0_1] 45)).alloc (.cells #[.int .i64 s1.1, .slice a1_1 s1.2.length n1_1] 45)) := ⟨_, rfl⟩
    rw [← hw] at HB A0 A1 K_p0 K_p1 ⊢
    clear hw
    refine (szSpentList_any A0.out (by omega) (by omega) HB.out.size).mono ?_
    rintro e w2_ ⟨he, hb⟩
    rw [if_pos (by have := C0.out; omega), ← H0q.out] at he
    subst he
    replace A0 := Lib.hid (tySpentList.behind A0.out (hb.mono HB.out.size))
    replace A1 := Lib.hid (tySpentList.behind A1.out (hb.mono HB.out.size))
    replace K_p0 := Lib.hid ((hb.block _ (lt_of_block K_p0.out)).trans K_p0.out)
    replace K_p1 := Lib.hid ((hb.block _ (lt_of_block K_p1.out)).trans K_p1.out)
    replace HB := Lib.hid (HB.out.trans (hb.mono HB.out.size))
    clear hb
    have k_p0_0 := blk_cell K_p0.out 0
    rw [cell2_0] at k_p0_0
    have k_p0_1 := blk_cell K_p0.out 1
    rw [cell2_1] at k_p0_1
    have k_p1_0 := blk_cell K_p1.out 0
    rw [cell2_0] at k_p1_0
    have k_p1_1 := blk_cell K_p1.out 1
    rw [cell2_1] at k_p1_1
    go_wp2_with fail
    clear k_p0_0 k_p0_1 k_p1_0 k_p1_1
    refine (szSpentList_any A1.out (by omega) (by omega) HB.out.size).mono ?_
    rintro e w3_ ⟨he, hb⟩
    rw [if_neg (by have := C1.out; omega)] at he
    subst he
    replace A0 := Lib.hid (tySpentList.behind A0.out (hb.mono HB.out.size))
    replace A1 := Lib.hid (tySpentList.behind A1.out (hb.mono HB.out.size))
    replace K_p0 := Lib.hid ((hb.block _ (lt_of_block K_p0.out)).trans K_p0.out)
    replace K_p1 := Lib.hid ((hb.block _ (lt_of_block K_p1.out)).trans K_p1.out)
    replace HB := Lib.hid (HB.out.trans (hb.mono HB.out.size))
    clear hb
    have k_p0_0 := blk_cell K_p0.out 0
    rw [cell2_0] at k_p0_0
    have k_p0_1 := blk_cell K_p0.out 1
    rw [cell2_1] at k_p0_1
    have k_p1_0 := blk_cell K_p1.out 0
    rw [cell2_0] at k_p1_0
    have k_p1_1 := blk_cell K_p1.out 1
    rw [cell2_1] at k_p1_1
    go_wp2_with fail
    clear k_p0_0 k_p0_1 k_p1_0 k_p1_1
    go_ret
    exact ⟨rfl, HB.out⟩
  have C1 := Lib.hid bz1
  obtain ⟨q1, hq1⟩ : ∃ q : Int, q = q0 - (tySpentList.tot s1 : Int) := ⟨_, rfl⟩
  have d1q : decide (q1 < 0) = false := by simp; omega
  have e1q : 0 ≤ q1 ∧ q1 ≤ 1048576 := by omega
  have B1t : Hid (tySpentList.tot s1 ≤ 1048576) := Lib.hid (by omega)
  have H1q := Lib.hid hq1
  clear hq1 bz1
  go_enter Try.func10, Try.ntmps10
  have hb := (((Below.refl w.heap.size w).alloc (Nat.le_refl _) (.cells #[.int .i64 s0.1, .slice a0_1 s0.2.length n0_1] 45)).alloc (by simp) (.cells #[.int .i64 s1.1, .slice a1_1 s1.2.length n1_1] 45))
  have KK := blocks2T w (.cells #[.int .i64 s0.1, .slice a0_1 s0.2.length n0_1] 45) (.cells #[.int .i64 s1.1, .slice a1_1 s1.2.length n1_1] 45)
  have K_p0 := Lib.hid KK.1
  have K_p1 := Lib.hid KK.2
  clear KK
  replace A0 := Lib.hid (tySpentList.behind A0.out hb)
  replace A1 := Lib.hid (tySpentList.behind A1.out hb)
  have HB := Lib.hid hb
  clear hb
  have k_p0_0 := blk_cell K_p0.out 0
  rw [cell2_0] at k_p0_0
  have k_p0_1 := blk_cell K_p0.out 1
  rw [cell2_1] at k_p0_1
  have k_p1_0 := blk_cell K_p1.out 0
  rw [cell2_0] at k_p1_0
  have k_p1_1 := blk_cell K_p1.out 1
  rw [cell2_1] at k_p1_1
  go_wp2_with fail
  clear k_p0_0 k_p0_1 k_p1_0 k_p1_1
  obtain ⟨w1_, hw⟩ : ∃ x, x = ((w.alloc (.cells #[.int .i64 s0.1, .slice a0_1 s0.2.length n0_1] 45)).alloc (.cells #[.int .i64 s1.1, .slice a1_1 s1.2.length n1_1] 45)) := ⟨_, rfl⟩
  rw [← hw] at HB A0 A1 K_p0 K_p1 ⊢
  clear hw
  refine (szSpentList_any A0.out (by omega) (by omega) HB.out.size).mono ?_
  rintro e w2_ ⟨he, hb⟩
  rw [if_pos (by have := C0.out; omega), ← H0q.out] at he
  subst he
  replace A0 := Lib.hid (tySpentList.behind A0.out (hb.mono HB.out.size))
  replace A1 := Lib.hid (tySpentList.behind A1.out (hb.mono HB.out.size))
  replace K_p0 := Lib.hid ((hb.block _ (lt_of_block K_p0.out)).trans K_p0.out)
  replace K_p1 := Lib.hid ((hb.block _ (lt_of_block K_p1.out)).trans K_p1.out)
  replace HB := Lib.hid (HB.out.trans (hb.mono HB.out.size))
  clear hb
  have k_p0_0 := blk_cell K_p0.out 0
  rw [cell2_0] at k_p0_0
  have k_p0_1 := blk_cell K_p0.out 1
  rw [cell2_1] at k_p0_1
  have k_p1_0 := blk_cell K_p1.out 0
  rw [cell2_0] at k_p1_0
  have k_p1_1 := blk_cell K_p1.out 1
  rw [cell2_1] at k_p1_1
  go_wp2_with fail
  clear k_p0_0 k_p0_1 k_p1_0 k_p1_1
  refine (szSpentList_any A1.out (by omega) (by omega) HB.out.size).mono ?_
  rintro e w3_ ⟨he, hb⟩
  rw [if_pos (by have := C1.out; omega), ← H1q.out] at he
  subst he
  replace A0 := Lib.hid (tySpentList.behind A0.out (hb.mono HB.out.size))
  replace A1 := Lib.hid (tySpentList.behind A1.out (hb.mono HB.out.size))
  replace K_p0 := Lib.hid ((hb.block _ (lt_of_block K_p0.out)).trans K_p0.out)
  replace K_p1 := Lib.hid ((hb.block _ (lt_of_block K_p1.out)).trans K_p1.out)
  replace HB := Lib.hid (HB.out.trans (hb.mono HB.out.size))
  clear hb
  -- ('sz', 0)
  -- ('sz', 1)
  -- ('call', 'spec', 'MergeSpent', [('copy', 0, 'SpentList'), ('copy', 1, 'SpentList')], ['w0', 'w1'])
  obtain ⟨Y0, hY0⟩ : ∃ y : VSpentList, y = (s0.1, mgL s0.1 s1.1 s0.2 s1.2) := ⟨_, rfl⟩
  have HY0 := Lib.hid hY0
  clear hY0
  obtain ⟨Y1, hY1⟩ : ∃ y : Int, y = mgN s0.1 s1.1 s0.2 s1.2 := ⟨_, rfl⟩
  have HY1 := Lib.hid hY1
  clear hY1
  have k_p0_0 := blk_cell K_p0.out 0
  rw [cell2_0] at k_p0_0
  have k_p0_1 := blk_cell K_p0.out 1
  rw [cell2_1] at k_p0_1
  have k_p1_0 := blk_cell K_p1.out 0
  rw [cell2_0] at k_p1_0
  have k_p1_1 := blk_cell K_p1.out 1
  rw [cell2_1] at k_p1_1
  go_wp2_with fail
  clear k_p0_0 k_p0_1 k_p1_0 k_p1_1
  go_cut [6, 7] (fun p0 p1 wx => ∃ (E : Nat) (ar_1 : Option Addr) (nr_1 : Nat) (F : Nat → Prop) (WW : World), WW = wx ∧ p0 = .pointer (some ⟨E, 0, none⟩) ∧ p1 = .int .i64 Y1 ∧ wx.heap[E]? = some (.cells #[.int .i64 Y0.1, .slice ar_1 Y0.2.length nr_1] 26 (0, 0)) ∧ tySpentList.own F wx [.int .i64 Y0.1, .slice ar_1 Y0.2.length nr_1] Y0 ∧ (∀ b, F b → (w3_.heap.size ≤ b ∧ b < wx.heap.size) ∧ b ≠ E) ∧ w3_.heap.size ≤ E ∧ Below w3_.heap.size w3_ wx)
  case first =>
    refine region_till (fun x => x.cell? ⟨w.heap.size, 0, none⟩ = some (.int .i64 s0.1) ∧ x.cell? ⟨w.heap.size, 1, none⟩ = some (.slice a0_1 s0.2.length n0_1) ∧ x.cell? ⟨w.heap.size + 1, 0, none⟩ = some (.int .i64 s1.1) ∧ x.cell? ⟨w.heap.size + 1, 1, none⟩ = some (.slice a1_1 s1.2.length n1_1)) 10 (by kernel_rfl) ?_
    obtain ⟨wd, hwd⟩ : ∃ x, x = w3_.drew := ⟨_, rfl⟩
    have HR : Hid (Below w3_.heap.size w3_ wd) := Lib.hid (by rw [hwd]; exact (Below.refl _ _).drew)
    have HSr : Hid (∀ x, Below w3_.heap.size w3_ x → (x.cell? ⟨w.heap.size, 0, none⟩ = some (.int .i64 s0.1) ∧ x.cell? ⟨w.heap.size, 1, none⟩ = some (.slice a0_1 s0.2.length n0_1) ∧ x.cell? ⟨w.heap.size + 1, 0, none⟩ = some (.int .i64 s1.1) ∧ x.cell? ⟨w.heap.size + 1, 1, none⟩ = some (.slice a1_1 s1.2.length n1_1))) := Lib.hid (fun x hx => ⟨(blk_cell ((hx.block _ (lt_of_block K_p0.out)).trans K_p0.out) 0).trans (cell2_0 _ _), (blk_cell ((hx.block _ (lt_of_block K_p0.out)).trans K_p0.out) 1).trans (cell2_1 _ _), (blk_cell ((hx.block _ (lt_of_block K_p1.out)).trans K_p1.out) 0).trans (cell2_0 _ _), (blk_cell ((hx.block _ (lt_of_block K_p1.out)).trans K_p1.out) 1).trans (cell2_1 _ _)⟩)
    have d0 := HSr.out _ HR.out
    rw [← hwd]
    clear hwd
    apply Till.take (i := 0) [0, 1, 4, 5, 7, 10]
    · simp only [List.getElem?_toArray, List.getElem?_cons_zero]
      rfl
    · kernel_rfl
    · kernel_rfl
    · kernel_rfl
    · kernel_rfl
    · exact fun _ _ _ h => h
    · first
        | exact Or.inr ⟨by rfl, rfl⟩
        | (refine Or.inl ⟨by rfl, fun wq hwq => ?_⟩
           dsimp only at hwq
           go_simp
           first
             | done
             | rfl)
    · exact d0
    simp only [Act.put, List.setIfInBounds_toArray, List.set_cons_zero, List.set_cons_succ]
    apply Till.take (i := 2) [2, 3, 4, 5, 7, 10]
    · simp only [List.getElem?_toArray, List.getElem?_cons_succ, List.getElem?_cons_zero]
      rfl
    · kernel_rfl
    · kernel_rfl
    · kernel_rfl
    · kernel_rfl
    · exact fun _ _ _ h => h
    · first
        | exact Or.inr ⟨by rfl, rfl⟩
        | (refine Or.inl ⟨by rfl, fun wq hwq => ?_⟩
           dsimp only at hwq
           go_simp
           first
             | done
             | rfl)
    · exact d0
    simp only [Act.put, List.setIfInBounds_toArray, List.set_cons_zero, List.set_cons_succ]
    apply Till.two (i := 1) (j := 8)
    · kernel_rfl
    · simp only [List.getElem?_toArray, List.getElem?_cons_succ, List.getElem?_cons_zero]
      rfl
    · simp only [List.getElem?_toArray, List.getElem?_cons_succ, List.getElem?_cons_zero]
      rfl
    · intro K0 hK
      go_simp
      refine (toSpentList_any (tySpentList.behind A0.out (HR.out.mono HB.out.size)) (Nat.le_trans HB.out.size HR.out.size) (Nat.le_trans B0t.out (by decide))).mono ?_
      rintro e' x1 ⟨c_z0, he, hO_z0, hb⟩
      subst he
      obtain ⟨az0_1, nz0_1, _, rfl, _⟩ := own_SpentList hO_z0
      replace HR := Lib.hid (HR.out.trans (hb.mono HR.out.size))
      clear hb d0
      have d0 := HSr.out _ HR.out
      have HO_z0 := Lib.hid hO_z0
      clear hO_z0
      refine hK.out _ _ (Or.inr d0) ?_
      clear hK K0
      try simp only [Act.put, List.setIfInBounds_toArray, List.set_cons_zero, List.set_cons_succ]
      apply Till.two (i := 3) (j := 8)
      · kernel_rfl
      · simp only [List.getElem?_toArray, List.getElem?_cons_succ, List.getElem?_cons_zero]
        rfl
      · simp only [List.getElem?_toArray, List.getElem?_cons_succ, List.getElem?_cons_zero]
        rfl
      · intro K0 hK
        go_simp
        refine (toSpentList_any (tySpentList.behind A1.out (HR.out.mono HB.out.size)) (Nat.le_trans HB.out.size HR.out.size) (Nat.le_trans B1t.out (by decide))).mono ?_
        rintro e' x2 ⟨c_z1, he, hO_z1, hb⟩
        subst he
        obtain ⟨az1_1, nz1_1, _, rfl, _⟩ := own_SpentList hO_z1
        replace HO_z0 := Lib.hid (tySpentList.onext HO_z0.out hb)
        replace HR := Lib.hid (HR.out.trans (hb.mono HR.out.size))
        clear hb d0
        have d0 := HSr.out _ HR.out
        have HO_z1 := Lib.hid hO_z1
        clear hO_z1
        refine hK.out _ _ (Or.inr d0) ?_
        clear hK K0
        try simp only [Act.put, List.setIfInBounds_toArray, List.set_cons_zero, List.set_cons_succ]
        apply Till.two (i := 4) (j := 8)
        · kernel_rfl
        · simp only [List.getElem?_toArray, List.getElem?_cons_succ, List.getElem?_cons_zero]
          rfl
        · simp only [List.getElem?_toArray, List.getElem?_cons_succ, List.getElem?_cons_zero]
          rfl
        · intro K0 hK
          go_simp
          refine (spec_mrg_t (tySpentList.ord HO_z0.out) (Nat.le_refl _) (tySpentList.ord HO_z1.out) (Nat.le_refl _) B0t.out).mono ?_
          rintro e' x3 ⟨c_r, F_r, he, hO_r, hF_r, hb⟩
          replace hO_r : tySpentList.own F_r x3 c_r ((s0.1, mgL s0.1 s1.1 s0.2 s1.2)) := hO_r
          rw [← HY0.out] at hO_r
          rw [← HY1.out] at he
          subst he
          obtain ⟨ar_1, nr_1, _, rfl, _⟩ := own_SpentList hO_r
          have HFr : Hid (∀ b, F_r b → w3_.heap.size ≤ b ∧ b < x3.heap.size) := Lib.hid (fun b h => ⟨Nat.le_trans HR.out.size (hF_r b h).1, (hF_r b h).2⟩)
          replace HO_z0 := Lib.hid (tySpentList.onext HO_z0.out hb)
          replace HO_z1 := Lib.hid (tySpentList.onext HO_z1.out hb)
          replace HR := Lib.hid (HR.out.trans (hb.mono HR.out.size))
          clear hb d0
          have d0 := HSr.out _ HR.out
          have HOr := Lib.hid hO_r
          clear hO_r hF_r
          refine hK.out _ _ (Or.inr d0) ?_
          clear hK K0
          try simp only [Act.put, List.setIfInBounds_toArray, List.set_cons_zero, List.set_cons_succ]
          apply Till.take (i := 5) [5, 7, 10]
          · simp only [List.getElem?_toArray, List.getElem?_cons_succ, List.getElem?_cons_zero]
            rfl
          · kernel_rfl
          · kernel_rfl
          · kernel_rfl
          · kernel_rfl
          · exact fun _ _ _ h => h
          · first
              | exact Or.inr ⟨by rfl, rfl⟩
              | (refine Or.inl ⟨by rfl, fun wq hwq => ?_⟩
                 dsimp only at hwq
                 go_simp
                 first
                   | done
                   | rfl)
          · exact d0
          simp only [Act.put, List.setIfInBounds_toArray, List.set_cons_zero, List.set_cons_succ]
          apply Till.take (i := 6) [6, 9, 10]
          · simp only [List.getElem?_toArray, List.getElem?_cons_succ, List.getElem?_cons_zero]
            rfl
          · kernel_rfl
          · kernel_rfl
          · kernel_rfl
          · kernel_rfl
          · exact fun _ _ _ h => h
          · first
              | exact Or.inr ⟨by rfl, rfl⟩
              | (refine Or.inl ⟨by rfl, fun wq hwq => ?_⟩
                 dsimp only at hwq
                 go_simp
                 first
                   | done
                   | rfl)
          · exact d0
          simp only [Act.put, List.setIfInBounds_toArray, List.set_cons_zero, List.set_cons_succ]
          apply Till.take (i := 7) [7, 10]
          · simp only [List.getElem?_toArray, List.getElem?_cons_succ, List.getElem?_cons_zero]
            rfl
          · kernel_rfl
          · kernel_rfl
          · kernel_rfl
          · kernel_rfl
          · exact fun _ _ _ h => h
          · first
              | exact Or.inr ⟨by rfl, rfl⟩
              | (refine Or.inl ⟨by rfl, fun wq hwq => ?_⟩
                 dsimp only at hwq
                 go_simp
                 first
                   | done
                   | rfl)
          · exact d0
          simp only [Act.put, List.setIfInBounds_toArray, List.set_cons_zero, List.set_cons_succ]
          apply Till.one (i := 8)
          · kernel_rfl
          · simp only [List.getElem?_toArray, List.getElem?_cons_succ, List.getElem?_cons_zero]
            rfl
          intro K hK
          go_simp
          have hb : Below x3.heap.size x3 (x3.alloc (.cells #[.int .i64 0, .slice none 0 0] 26)) := (Below.refl _ _).alloc (Nat.le_refl _) _
          have HE0 := Lib.hid (heap_alloc_new x3 (.cells #[.int .i64 0, .slice none 0 0] 26))
          have HEl := Lib.hid HR.out.size
          replace HFr : Hid (∀ b, F_r b → (w3_.heap.size ≤ b ∧ b < (x3.alloc (.cells #[.int .i64 0, .slice none 0 0] 26)).heap.size) ∧ b ≠ x3.heap.size) := Lib.hid (fun b h => ⟨⟨(HFr.out b h).1, Nat.lt_of_lt_of_le (HFr.out b h).2 hb.size⟩, by have := (HFr.out b h).2; omega⟩)
          replace HO_z0 := Lib.hid (tySpentList.onext HO_z0.out hb)
          replace HO_z1 := Lib.hid (tySpentList.onext HO_z1.out hb)
          replace HOr := Lib.hid (tySpentList.onext HOr.out hb)
          replace HR := Lib.hid (HR.out.trans (hb.mono HR.out.size))
          clear hb d0
          have d0 := HSr.out _ HR.out
          refine hK.out _ _ (Or.inr d0) ?_
          clear hK K
          try simp only [Act.put, List.setIfInBounds_toArray, List.set_cons_zero, List.set_cons_succ]
          obtain ⟨x4, hwa⟩ : ∃ x, x = x3.alloc (.cells #[.int .i64 0, .slice none 0 0] 26) := ⟨_, rfl⟩
          obtain ⟨E, hE⟩ : ∃ x, x = x3.heap.size := ⟨_, rfl⟩
          rw [← hwa] at HE0 HR d0 HO_z0 HO_z1 HOr HFr ⊢
          rw [← hE] at HE0 HEl HFr ⊢
          have HE := HE0
          clear hwa hE HE0
          obtain ⟨wz, hwz⟩ : ∃ x, x = x4 := ⟨_, rfl⟩
          rw [← hwz] at HE HR HOr HFr d0 ⊢
          clear hwz
          have q0 := (blk_cell HE.out 0).trans (cell2_0 _ _)
          have f0 := blk_free HE.out 0
          have q1 := (blk_cell HE.out 1).trans (cell2_1 _ _)
          have f1 := blk_free HE.out 1
          have s0t : (wz.setCell ⟨E, 0, none⟩ (.int .i64 Y0.1)).heap[E]? = some (.cells #[.int .i64 Y0.1, .slice none 0 0] 26 (0, 0)) := blk_set HE.out 0 (.int .i64 Y0.1)
          have s1t : ((wz.setCell ⟨E, 0, none⟩ (.int .i64 Y0.1)).setCell ⟨E, 1, none⟩ (.slice ar_1 Y0.2.length nr_1)).heap[E]? = some (.cells #[.int .i64 Y0.1, .slice ar_1 Y0.2.length nr_1] 26 (0, 0)) := blk_set s0t 1 (.slice ar_1 Y0.2.length nr_1)
          have t3 : wz.grownBy ((wz.setCell ⟨E, 0, none⟩ (.int .i64 Y0.1)).setCell ⟨E, 1, none⟩ (.slice ar_1 Y0.2.length nr_1)) (some E) := grown_trans (grown_set _ _ _ _) (grown_set _ _ _ _)
          have R9 := Lib.hid (HR.out.grown t3 HR.out.size (fun k hk => by injection hk with hk; have := HEl.out; omega))
          have O9 := Lib.hid (tySpentList.okept (G := fun b => b = E) HOr.out (KeptF.of_grown t3 (fun b h => by injection h with h; exact h.symm)) (fun b hb h => (HFr.out b hb).2 h))
          have F9 : Hid (∀ b, F_r b → (w3_.heap.size ≤ b ∧ b < ((wz.setCell ⟨E, 0, none⟩ (.int .i64 Y0.1)).setCell ⟨E, 1, none⟩ (.slice ar_1 Y0.2.length nr_1)).heap.size) ∧ b ≠ E) := Lib.hid (fun b h => ⟨⟨(HFr.out b h).1.1, Nat.lt_of_lt_of_le (HFr.out b h).1.2 t3.size⟩, (HFr.out b h).2⟩)
          have d9 := HSr.out _ R9.out
          have T9 := Lib.hid s1t
          clear t3 s0t s1t
          apply Till.one (i := 9)
          · kernel_rfl
          · simp only [List.getElem?_toArray, List.getElem?_cons_succ, List.getElem?_cons_zero]
            rfl
          intro K hK
          go_simp
          skip
          refine hK.out _ _ (Or.inr d9) ?_
          clear hK K
          try simp only [Act.put, List.setIfInBounds_toArray, List.set_cons_zero, List.set_cons_succ]
          apply Till.one (i := 10)
          · kernel_rfl
          · simp only [List.getElem?_toArray, List.getElem?_cons_succ, List.getElem?_cons_zero]
            rfl
          intro K hK
          go_simp
          skip
          refine hK.out _ _ (Or.inl (by rfl)) ?_
          clear hK K
          try simp only [Act.put, List.setIfInBounds_toArray, List.set_cons_zero, List.set_cons_succ]
          refine Till.done (by kernel_rfl) ?_ _
          clear q0 f0 q1 f1 d9
          obtain ⟨wy, hwy⟩ : ∃ x, x = ((wz.setCell ⟨E, 0, none⟩ (.int .i64 Y0.1)).setCell ⟨E, 1, none⟩ (.slice ar_1 Y0.2.length nr_1)) := ⟨_, rfl⟩
          rw [← hwy] at T9 R9 O9 F9 ⊢
          clear hwy
          go_wp2_with fail
          go_meet
          case rel => exact ⟨E, ar_1, nr_1, F_r, _, rfl, rfl, rfl, T9.out, O9.out, F9.out, HEl.out, R9.out⟩
        · intro K0 hK
          go_simp
          have hb : Below x2.heap.size x2 (x2.alloc (.cells #[.int .i64 0, .slice none 0 0] 26)) := (Below.refl _ _).alloc (Nat.le_refl _) _
          have HE0 := Lib.hid (heap_alloc_new x2 (.cells #[.int .i64 0, .slice none 0 0] 26))
          have HEl := Lib.hid HR.out.size
          replace HO_z0 := Lib.hid (tySpentList.onext HO_z0.out hb)
          replace HO_z1 := Lib.hid (tySpentList.onext HO_z1.out hb)
          replace HR := Lib.hid (HR.out.trans (hb.mono HR.out.size))
          clear hb d0
          have d0 := HSr.out _ HR.out
          refine hK.out _ _ (Or.inr d0) ?_
          clear hK K0
          try simp only [Act.put, List.setIfInBounds_toArray, List.set_cons_zero, List.set_cons_succ]
          obtain ⟨x5, hwa⟩ : ∃ x, x = x2.alloc (.cells #[.int .i64 0, .slice none 0 0] 26) := ⟨_, rfl⟩
          obtain ⟨E, hE⟩ : ∃ x, x = x2.heap.size := ⟨_, rfl⟩
          rw [← hwa] at HE0 HR d0 HO_z0 HO_z1 ⊢
          rw [← hE] at HE0 HEl ⊢
          have HE := HE0
          clear hwa hE HE0
          apply Till.one (i := 4)
          · kernel_rfl
          · simp only [List.getElem?_toArray, List.getElem?_cons_succ, List.getElem?_cons_zero]
            rfl
          intro K hK
          go_simp
          refine (spec_mrg_t (tySpentList.ord HO_z0.out) (Nat.le_refl _) (tySpentList.ord HO_z1.out) (Nat.le_refl _) B0t.out).mono ?_
          rintro e' x6 ⟨c_r, F_r, he, hO_r, hF_r, hb⟩
          replace hO_r : tySpentList.own F_r x6 c_r ((s0.1, mgL s0.1 s1.1 s0.2 s1.2)) := hO_r
          rw [← HY0.out] at hO_r
          rw [← HY1.out] at he
          subst he
          obtain ⟨ar_1, nr_1, _, rfl, _⟩ := own_SpentList hO_r
          have HFr : Hid (∀ b, F_r b → (w3_.heap.size ≤ b ∧ b < x6.heap.size) ∧ b ≠ E) := Lib.hid (fun b h => ⟨⟨Nat.le_trans HR.out.size (hF_r b h).1, (hF_r b h).2⟩, by have := (hF_r b h).1; have := lt_of_block HE.out; omega⟩)
          replace HO_z0 := Lib.hid (tySpentList.onext HO_z0.out hb)
          replace HO_z1 := Lib.hid (tySpentList.onext HO_z1.out hb)
          replace HE := Lib.hid ((hb.block _ (lt_of_block HE.out)).trans HE.out)
          replace HR := Lib.hid (HR.out.trans (hb.mono HR.out.size))
          clear hb d0
          have d0 := HSr.out _ HR.out
          have HOr := Lib.hid hO_r
          clear hO_r hF_r
          refine hK.out _ _ (Or.inr d0) ?_
          clear hK K
          try simp only [Act.put, List.setIfInBounds_toArray, List.set_cons_zero, List.set_cons_succ]
          apply Till.take (i := 5) [5, 7, 10]
          · simp only [List.getElem?_toArray, List.getElem?_cons_succ, List.getElem?_cons_zero]
            rfl
          · kernel_rfl
          · kernel_rfl
          · kernel_rfl
          · kernel_rfl
          · exact fun _ _ _ h => h
          · first
              | exact Or.inr ⟨by rfl, rfl⟩
              | (refine Or.inl ⟨by rfl, fun wq hwq => ?_⟩
                 dsimp only at hwq
                 go_simp
                 first
                   | done
                   | rfl)
          · exact d0
          simp only [Act.put, List.setIfInBounds_toArray, List.set_cons_zero, List.set_cons_succ]
          apply Till.take (i := 6) [6, 9, 10]
          · simp only [List.getElem?_toArray, List.getElem?_cons_succ, List.getElem?_cons_zero]
            rfl
          · kernel_rfl
          · kernel_rfl
          · kernel_rfl
          · kernel_rfl
          · exact fun _ _ _ h => h
          · first
              | exact Or.inr ⟨by rfl, rfl⟩
              | (refine Or.inl ⟨by rfl, fun wq hwq => ?_⟩
                 dsimp only at hwq
                 go_simp
                 first
                   | done
                   | rfl)
          · exact d0
          simp only [Act.put, List.setIfInBounds_toArray, List.set_cons_zero, List.set_cons_succ]
          apply Till.take (i := 7) [7, 10]
          · simp only [List.getElem?_toArray, List.getElem?_cons_succ, List.getElem?_cons_zero]
            rfl
          · kernel_rfl
          · kernel_rfl
          · kernel_rfl
          · kernel_rfl
          · exact fun _ _ _ h => h
          · first
              | exact Or.inr ⟨by rfl, rfl⟩
              | (refine Or.inl ⟨by rfl, fun wq hwq => ?_⟩
                 dsimp only at hwq
                 go_simp
                 first
                   | done
                   | rfl)
          · exact d0
          simp only [Act.put, List.setIfInBounds_toArray, List.set_cons_zero, List.set_cons_succ]
          obtain ⟨wz, hwz⟩ : ∃ x, x = x6 := ⟨_, rfl⟩
          rw [← hwz] at HE HR HOr HFr d0 ⊢
          clear hwz
          have q0 := (blk_cell HE.out 0).trans (cell2_0 _ _)
          have f0 := blk_free HE.out 0
          have q1 := (blk_cell HE.out 1).trans (cell2_1 _ _)
          have f1 := blk_free HE.out 1
          have s0t : (wz.setCell ⟨E, 0, none⟩ (.int .i64 Y0.1)).heap[E]? = some (.cells #[.int .i64 Y0.1, .slice none 0 0] 26 (0, 0)) := blk_set HE.out 0 (.int .i64 Y0.1)
          have s1t : ((wz.setCell ⟨E, 0, none⟩ (.int .i64 Y0.1)).setCell ⟨E, 1, none⟩ (.slice ar_1 Y0.2.length nr_1)).heap[E]? = some (.cells #[.int .i64 Y0.1, .slice ar_1 Y0.2.length nr_1] 26 (0, 0)) := blk_set s0t 1 (.slice ar_1 Y0.2.length nr_1)
          have t3 : wz.grownBy ((wz.setCell ⟨E, 0, none⟩ (.int .i64 Y0.1)).setCell ⟨E, 1, none⟩ (.slice ar_1 Y0.2.length nr_1)) (some E) := grown_trans (grown_set _ _ _ _) (grown_set _ _ _ _)
          have R9 := Lib.hid (HR.out.grown t3 HR.out.size (fun k hk => by injection hk with hk; have := HEl.out; omega))
          have O9 := Lib.hid (tySpentList.okept (G := fun b => b = E) HOr.out (KeptF.of_grown t3 (fun b h => by injection h with h; exact h.symm)) (fun b hb h => (HFr.out b hb).2 h))
          have F9 : Hid (∀ b, F_r b → (w3_.heap.size ≤ b ∧ b < ((wz.setCell ⟨E, 0, none⟩ (.int .i64 Y0.1)).setCell ⟨E, 1, none⟩ (.slice ar_1 Y0.2.length nr_1)).heap.size) ∧ b ≠ E) := Lib.hid (fun b h => ⟨⟨(HFr.out b h).1.1, Nat.lt_of_lt_of_le (HFr.out b h).1.2 t3.size⟩, (HFr.out b h).2⟩)
          have d9 := HSr.out _ R9.out
          have T9 := Lib.hid s1t
          clear t3 s0t s1t
          apply Till.one (i := 9)
          · kernel_rfl
          · simp only [List.getElem?_toArray, List.getElem?_cons_succ, List.getElem?_cons_zero]
            rfl
          intro K hK
          go_simp
          skip
          refine hK.out _ _ (Or.inr d9) ?_
          clear hK K
          try simp only [Act.put, List.setIfInBounds_toArray, List.set_cons_zero, List.set_cons_succ]
          apply Till.one (i := 10)
          · kernel_rfl
          · simp only [List.getElem?_toArray, List.getElem?_cons_succ, List.getElem?_cons_zero]
            rfl
          intro K hK
          go_simp
          skip
          refine hK.out _ _ (Or.inl (by rfl)) ?_
          clear hK K
          try simp only [Act.put, List.setIfInBounds_toArray, List.set_cons_zero, List.set_cons_succ]
          refine Till.done (by kernel_rfl) ?_ _
          clear q0 f0 q1 f1 d9
          obtain ⟨wy, hwy⟩ : ∃ x, x = ((wz.setCell ⟨E, 0, none⟩ (.int .i64 Y0.1)).setCell ⟨E, 1, none⟩ (.slice ar_1 Y0.2.length nr_1)) := ⟨_, rfl⟩
          rw [← hwy] at T9 R9 O9 F9 ⊢
          clear hwy
          go_wp2_with fail
          go_meet
          case rel => exact ⟨E, ar_1, nr_1, F_r, _, rfl, rfl, rfl, T9.out, O9.out, F9.out, HEl.out, R9.out⟩
      · intro K0 hK
        go_simp
        have hb : Below x1.heap.size x1 (x1.alloc (.cells #[.int .i64 0, .slice none 0 0] 26)) := (Below.refl _ _).alloc (Nat.le_refl _) _
        have HE0 := Lib.hid (heap_alloc_new x1 (.cells #[.int .i64 0, .slice none 0 0] 26))
        have HEl := Lib.hid HR.out.size
        replace HO_z0 := Lib.hid (tySpentList.onext HO_z0.out hb)
        replace HR := Lib.hid (HR.out.trans (hb.mono HR.out.size))
        clear hb d0
        have d0 := HSr.out _ HR.out
        refine hK.out _ _ (Or.inr d0) ?_
        clear hK K0
        try simp only [Act.put, List.setIfInBounds_toArray, List.set_cons_zero, List.set_cons_succ]
        obtain ⟨x7, hwa⟩ : ∃ x, x = x1.alloc (.cells #[.int .i64 0, .slice none 0 0] 26) := ⟨_, rfl⟩
        obtain ⟨E, hE⟩ : ∃ x, x = x1.heap.size := ⟨_, rfl⟩
        rw [← hwa] at HE0 HR d0 HO_z0 ⊢
        rw [← hE] at HE0 HEl ⊢
        have HE := HE0
        clear hwa hE HE0
        apply Till.one (i := 3)
        · kernel_rfl
        · simp only [List.getElem?_toArray, List.getElem?_cons_succ, List.getElem?_cons_zero]
          rfl
        intro K hK
        go_simp
        refine (toSpentList_any (tySpentList.behind A1.out (HR.out.mono HB.out.size)) (Nat.le_trans HB.out.size HR.out.size) (Nat.le_trans B1t.out (by decide))).mono ?_
        rintro e' x8 ⟨c_z1, he, hO_z1, hb⟩
        subst he
        obtain ⟨az1_1, nz1_1, _, rfl, _⟩ := own_SpentList hO_z1
        replace HO_z0 := Lib.hid (tySpentList.onext HO_z0.out hb)
        replace HE := Lib.hid ((hb.block _ (lt_of_block HE.out)).trans HE.out)
        replace HR := Lib.hid (HR.out.trans (hb.mono HR.out.size))
        clear hb d0
        have d0 := HSr.out _ HR.out
        have HO_z1 := Lib.hid hO_z1
        clear hO_z1
        refine hK.out _ _ (Or.inr d0) ?_
        clear hK K
        try simp only [Act.put, List.setIfInBounds_toArray, List.set_cons_zero, List.set_cons_succ]
        apply Till.one (i := 4)
        · kernel_rfl
        · simp only [List.getElem?_toArray, List.getElem?_cons_succ, List.getElem?_cons_zero]
          rfl
        intro K hK
        go_simp
        refine (spec_mrg_t (tySpentList.ord HO_z0.out) (Nat.le_refl _) (tySpentList.ord HO_z1.out) (Nat.le_refl _) B0t.out).mono ?_
        rintro e' x9 ⟨c_r, F_r, he, hO_r, hF_r, hb⟩
        replace hO_r : tySpentList.own F_r x9 c_r ((s0.1, mgL s0.1 s1.1 s0.2 s1.2)) := hO_r
        rw [← HY0.out] at hO_r
        rw [← HY1.out] at he
        subst he
        obtain ⟨ar_1, nr_1, _, rfl, _⟩ := own_SpentList hO_r
        have HFr : Hid (∀ b, F_r b → (w3_.heap.size ≤ b ∧ b < x9.heap.size) ∧ b ≠ E) := Lib.hid (fun b h => ⟨⟨Nat.le_trans HR.out.size (hF_r b h).1, (hF_r b h).2⟩, by have := (hF_r b h).1; have := lt_of_block HE.out; omega⟩)
        replace HO_z0 := Lib.hid (tySpentList.onext HO_z0.out hb)
        replace HO_z1 := Lib.hid (tySpentList.onext HO_z1.out hb)
        replace HE := Lib.hid ((hb.block _ (lt_of_block HE.out)).trans HE.out)
        replace HR := Lib.hid (HR.out.trans (hb.mono HR.out.size))
        clear hb d0
        have d0 := HSr.out _ HR.out
        have HOr := Lib.hid hO_r
        clear hO_r hF_r
        refine hK.out _ _ (Or.inr d0) ?_
        clear hK K
        try simp only [Act.put, List.setIfInBounds_toArray, List.set_cons_zero, List.set_cons_succ]
        apply Till.take (i := 5) [5, 7, 10]
        · simp only [List.getElem?_toArray, List.getElem?_cons_succ, List.getElem?_cons_zero]
          rfl
        · kernel_rfl
        · kernel_rfl
        · kernel_rfl
        · kernel_rfl
        · exact fun _ _ _ h => h
        · first
            | exact Or.inr ⟨by rfl, rfl⟩
            | (refine Or.inl ⟨by rfl, fun wq hwq => ?_⟩
               dsimp only at hwq
               go_simp
               first
                 | done
                 | rfl)
        · exact d0
        simp only [Act.put, List.setIfInBounds_toArray, List.set_cons_zero, List.set_cons_succ]
        apply Till.take (i := 6) [6, 9, 10]
        · simp only [List.getElem?_toArray, List.getElem?_cons_succ, List.getElem?_cons_zero]
          rfl
        · kernel_rfl
        · kernel_rfl
        · kernel_rfl
        · kernel_rfl
        · exact fun _ _ _ h => h
        · first
            | exact Or.inr ⟨by rfl, rfl⟩
            | (refine Or.inl ⟨by rfl, fun wq hwq => ?_⟩
               dsimp only at hwq
               go_simp
               first
                 | done
                 | rfl)
        · exact d0
        simp only [Act.put, List.setIfInBounds_toArray, List.set_cons_zero, List.set_cons_succ]
        apply Till.take (i := 7) [7, 10]
        · simp only [List.getElem?_toArray, List.getElem?_cons_succ, List.getElem?_cons_zero]
          rfl
        · kernel_rfl
        · kernel_rfl
        · kernel_rfl
        · kernel_rfl
        · exact fun _ _ _ h => h
        · first
            | exact Or.inr ⟨by rfl, rfl⟩
            | (refine Or.inl ⟨by rfl, fun wq hwq => ?_⟩
               dsimp only at hwq
               go_simp
               first
                 | done
                 | rfl)
        · exact d0
        simp only [Act.put, List.setIfInBounds_toArray, List.set_cons_zero, List.set_cons_succ]
        obtain ⟨wz, hwz⟩ : ∃ x, x = x9 := ⟨_, rfl⟩
        rw [← hwz] at HE HR HOr HFr d0 ⊢
        clear hwz
        have q0 := (blk_cell HE.out 0).trans (cell2_0 _ _)
        have f0 := blk_free HE.out 0
        have q1 := (blk_cell HE.out 1).trans (cell2_1 _ _)
        have f1 := blk_free HE.out 1
        have s0t : (wz.setCell ⟨E, 0, none⟩ (.int .i64 Y0.1)).heap[E]? = some (.cells #[.int .i64 Y0.1, .slice none 0 0] 26 (0, 0)) := blk_set HE.out 0 (.int .i64 Y0.1)
        have s1t : ((wz.setCell ⟨E, 0, none⟩ (.int .i64 Y0.1)).setCell ⟨E, 1, none⟩ (.slice ar_1 Y0.2.length nr_1)).heap[E]? = some (.cells #[.int .i64 Y0.1, .slice ar_1 Y0.2.length nr_1] 26 (0, 0)) := blk_set s0t 1 (.slice ar_1 Y0.2.length nr_1)
        have t3 : wz.grownBy ((wz.setCell ⟨E, 0, none⟩ (.int .i64 Y0.1)).setCell ⟨E, 1, none⟩ (.slice ar_1 Y0.2.length nr_1)) (some E) := grown_trans (grown_set _ _ _ _) (grown_set _ _ _ _)
        have R9 := Lib.hid (HR.out.grown t3 HR.out.size (fun k hk => by injection hk with hk; have := HEl.out; omega))
        have O9 := Lib.hid (tySpentList.okept (G := fun b => b = E) HOr.out (KeptF.of_grown t3 (fun b h => by injection h with h; exact h.symm)) (fun b hb h => (HFr.out b hb).2 h))
        have F9 : Hid (∀ b, F_r b → (w3_.heap.size ≤ b ∧ b < ((wz.setCell ⟨E, 0, none⟩ (.int .i64 Y0.1)).setCell ⟨E, 1, none⟩ (.slice ar_1 Y0.2.length nr_1)).heap.size) ∧ b ≠ E) := Lib.hid (fun b h => ⟨⟨(HFr.out b h).1.1, Nat.lt_of_lt_of_le (HFr.out b h).1.2 t3.size⟩, (HFr.out b h).2⟩)
        have d9 := HSr.out _ R9.out
        have T9 := Lib.hid s1t
        clear t3 s0t s1t
        apply Till.one (i := 9)
        · kernel_rfl
        · simp only [List.getElem?_toArray, List.getElem?_cons_succ, List.getElem?_cons_zero]
          rfl
        intro K hK
        go_simp
        skip
        refine hK.out _ _ (Or.inr d9) ?_
        clear hK K
        try simp only [Act.put, List.setIfInBounds_toArray, List.set_cons_zero, List.set_cons_succ]
        apply Till.one (i := 10)
        · kernel_rfl
        · simp only [List.getElem?_toArray, List.getElem?_cons_succ, List.getElem?_cons_zero]
          rfl
        intro K hK
        go_simp
        skip
        refine hK.out _ _ (Or.inl (by rfl)) ?_
        clear hK K
        try simp only [Act.put, List.setIfInBounds_toArray, List.set_cons_zero, List.set_cons_succ]
        refine Till.done (by kernel_rfl) ?_ _
        clear q0 f0 q1 f1 d9
        obtain ⟨wy, hwy⟩ : ∃ x, x = ((wz.setCell ⟨E, 0, none⟩ (.int .i64 Y0.1)).setCell ⟨E, 1, none⟩ (.slice ar_1 Y0.2.length nr_1)) := ⟨_, rfl⟩
        rw [← hwy] at T9 R9 O9 F9 ⊢
        clear hwy
        go_wp2_with fail
        go_meet
        case rel => exact ⟨E, ar_1, nr_1, F_r, _, rfl, rfl, rfl, T9.out, O9.out, F9.out, HEl.out, R9.out⟩
    · intro K0 hK
      go_simp
      have hb : Below wd.heap.size wd (wd.alloc (.cells #[.int .i64 0, .slice none 0 0] 26)) := (Below.refl _ _).alloc (Nat.le_refl _) _
      have HE0 := Lib.hid (heap_alloc_new wd (.cells #[.int .i64 0, .slice none 0 0] 26))
      have HEl := Lib.hid HR.out.size
      replace HR := Lib.hid (HR.out.trans (hb.mono HR.out.size))
      clear hb d0
      have d0 := HSr.out _ HR.out
      refine hK.out _ _ (Or.inr d0) ?_
      clear hK K0
      try simp only [Act.put, List.setIfInBounds_toArray, List.set_cons_zero, List.set_cons_succ]
      obtain ⟨x10, hwa⟩ : ∃ x, x = wd.alloc (.cells #[.int .i64 0, .slice none 0 0] 26) := ⟨_, rfl⟩
      obtain ⟨E, hE⟩ : ∃ x, x = wd.heap.size := ⟨_, rfl⟩
      rw [← hwa] at HE0 HR d0 ⊢
      rw [← hE] at HE0 HEl ⊢
      have HE := HE0
      clear hwa hE HE0
      apply Till.one (i := 1)
      · kernel_rfl
      · simp only [List.getElem?_toArray, List.getElem?_cons_succ, List.getElem?_cons_zero]
        rfl
      intro K hK
      go_simp
      refine (toSpentList_any (tySpentList.behind A0.out (HR.out.mono HB.out.size)) (Nat.le_trans HB.out.size HR.out.size) (Nat.le_trans B0t.out (by decide))).mono ?_
      rintro e' x11 ⟨c_z0, he, hO_z0, hb⟩
      subst he
      obtain ⟨az0_1, nz0_1, _, rfl, _⟩ := own_SpentList hO_z0
      replace HE := Lib.hid ((hb.block _ (lt_of_block HE.out)).trans HE.out)
      replace HR := Lib.hid (HR.out.trans (hb.mono HR.out.size))
      clear hb d0
      have d0 := HSr.out _ HR.out
      have HO_z0 := Lib.hid hO_z0
      clear hO_z0
      refine hK.out _ _ (Or.inr d0) ?_
      clear hK K
      try simp only [Act.put, List.setIfInBounds_toArray, List.set_cons_zero, List.set_cons_succ]
      apply Till.one (i := 3)
      · kernel_rfl
      · simp only [List.getElem?_toArray, List.getElem?_cons_succ, List.getElem?_cons_zero]
        rfl
      intro K hK
      go_simp
      refine (toSpentList_any (tySpentList.behind A1.out (HR.out.mono HB.out.size)) (Nat.le_trans HB.out.size HR.out.size) (Nat.le_trans B1t.out (by decide))).mono ?_
      rintro e' x12 ⟨c_z1, he, hO_z1, hb⟩
      subst he
      obtain ⟨az1_1, nz1_1, _, rfl, _⟩ := own_SpentList hO_z1
      replace HO_z0 := Lib.hid (tySpentList.onext HO_z0.out hb)
      replace HE := Lib.hid ((hb.block _ (lt_of_block HE.out)).trans HE.out)
      replace HR := Lib.hid (HR.out.trans (hb.mono HR.out.size))
      clear hb d0
      have d0 := HSr.out _ HR.out
      have HO_z1 := Lib.hid hO_z1
      clear hO_z1
      refine hK.out _ _ (Or.inr d0) ?_
      clear hK K
      try simp only [Act.put, List.setIfInBounds_toArray, List.set_cons_zero, List.set_cons_succ]
      apply Till.one (i := 4)
      · kernel_rfl
      · simp only [List.getElem?_toArray, List.getElem?_cons_succ, List.getElem?_cons_zero]
        rfl
      intro K hK
      go_simp
      refine (spec_mrg_t (tySpentList.ord HO_z0.out) (Nat.le_refl _) (tySpentList.ord HO_z1.out) (Nat.le_refl _) B0t.out).mono ?_
      rintro e' x13 ⟨c_r, F_r, he, hO_r, hF_r, hb⟩
      replace hO_r : tySpentList.own F_r x13 c_r ((s0.1, mgL s0.1 s1.1 s0.2 s1.2)) := hO_r
      rw [← HY0.out] at hO_r
      rw [← HY1.out] at he
      subst he
      obtain ⟨ar_1, nr_1, _, rfl, _⟩ := own_SpentList hO_r
      have HFr : Hid (∀ b, F_r b → (w3_.heap.size ≤ b ∧ b < x13.heap.size) ∧ b ≠ E) := Lib.hid (fun b h => ⟨⟨Nat.le_trans HR.out.size (hF_r b h).1, (hF_r b h).2⟩, by have := (hF_r b h).1; have := lt_of_block HE.out; omega⟩)
      replace HO_z0 := Lib.hid (tySpentList.onext HO_z0.out hb)
      replace HO_z1 := Lib.hid (tySpentList.onext HO_z1.out hb)
      replace HE := Lib.hid ((hb.block _ (lt_of_block HE.out)).trans HE.out)
      replace HR := Lib.hid (HR.out.trans (hb.mono HR.out.size))
      clear hb d0
      have d0 := HSr.out _ HR.out
      have HOr := Lib.hid hO_r
      clear hO_r hF_r
      refine hK.out _ _ (Or.inr d0) ?_
      clear hK K
      try simp only [Act.put, List.setIfInBounds_toArray, List.set_cons_zero, List.set_cons_succ]
      apply Till.take (i := 5) [5, 7, 10]
      · simp only [List.getElem?_toArray, List.getElem?_cons_succ, List.getElem?_cons_zero]
        rfl
      · kernel_rfl
      · kernel_rfl
      · kernel_rfl
      · kernel_rfl
      · exact fun _ _ _ h => h
      · first
          | exact Or.inr ⟨by rfl, rfl⟩
          | (refine Or.inl ⟨by rfl, fun wq hwq => ?_⟩
             dsimp only at hwq
             go_simp
             first
               | done
               | rfl)
      · exact d0
      simp only [Act.put, List.setIfInBounds_toArray, List.set_cons_zero, List.set_cons_succ]
      apply Till.take (i := 6) [6, 9, 10]
      · simp only [List.getElem?_toArray, List.getElem?_cons_succ, List.getElem?_cons_zero]
        rfl
      · kernel_rfl
      · kernel_rfl
      · kernel_rfl
      · kernel_rfl
      · exact fun _ _ _ h => h
      · first
          | exact Or.inr ⟨by rfl, rfl⟩
          | (refine Or.inl ⟨by rfl, fun wq hwq => ?_⟩
             dsimp only at hwq
             go_simp
             first
               | done
               | rfl)
      · exact d0
      simp only [Act.put, List.setIfInBounds_toArray, List.set_cons_zero, List.set_cons_succ]
      apply Till.take (i := 7) [7, 10]
      · simp only [List.getElem?_toArray, List.getElem?_cons_succ, List.getElem?_cons_zero]
        rfl
      · kernel_rfl
      · kernel_rfl
      · kernel_rfl
      · kernel_rfl
      · exact fun _ _ _ h => h
      · first
          | exact Or.inr ⟨by rfl, rfl⟩
          | (refine Or.inl ⟨by rfl, fun wq hwq => ?_⟩
             dsimp only at hwq
             go_simp
             first
               | done
               | rfl)
      · exact d0
      simp only [Act.put, List.setIfInBounds_toArray, List.set_cons_zero, List.set_cons_succ]
      obtain ⟨wz, hwz⟩ : ∃ x, x = x13 := ⟨_, rfl⟩
      rw [← hwz] at HE HR HOr HFr d0 ⊢
      clear hwz
      have q0 := (blk_cell HE.out 0).trans (cell2_0 _ _)
      have f0 := blk_free HE.out 0
      have q1 := (blk_cell HE.out 1).trans (cell2_1 _ _)
      have f1 := blk_free HE.out 1
      have s0t : (wz.setCell ⟨E, 0, none⟩ (.int .i64 Y0.1)).heap[E]? = some (.cells #[.int .i64 Y0.1, .slice none 0 0] 26 (0, 0)) := blk_set HE.out 0 (.int .i64 Y0.1)
      have s1t : ((wz.setCell ⟨E, 0, none⟩ (.int .i64 Y0.1)).setCell ⟨E, 1, none⟩ (.slice ar_1 Y0.2.length nr_1)).heap[E]? = some (.cells #[.int .i64 Y0.1, .slice ar_1 Y0.2.length nr_1] 26 (0, 0)) := blk_set s0t 1 (.slice ar_1 Y0.2.length nr_1)
      have t3 : wz.grownBy ((wz.setCell ⟨E, 0, none⟩ (.int .i64 Y0.1)).setCell ⟨E, 1, none⟩ (.slice ar_1 Y0.2.length nr_1)) (some E) := grown_trans (grown_set _ _ _ _) (grown_set _ _ _ _)
      have R9 := Lib.hid (HR.out.grown t3 HR.out.size (fun k hk => by injection hk with hk; have := HEl.out; omega))
      have O9 := Lib.hid (tySpentList.okept (G := fun b => b = E) HOr.out (KeptF.of_grown t3 (fun b h => by injection h with h; exact h.symm)) (fun b hb h => (HFr.out b hb).2 h))
      have F9 : Hid (∀ b, F_r b → (w3_.heap.size ≤ b ∧ b < ((wz.setCell ⟨E, 0, none⟩ (.int .i64 Y0.1)).setCell ⟨E, 1, none⟩ (.slice ar_1 Y0.2.length nr_1)).heap.size) ∧ b ≠ E) := Lib.hid (fun b h => ⟨⟨(HFr.out b h).1.1, Nat.lt_of_lt_of_le (HFr.out b h).1.2 t3.size⟩, (HFr.out b h).2⟩)
      have d9 := HSr.out _ R9.out
      have T9 := Lib.hid s1t
      clear t3 s0t s1t
      apply Till.one (i := 9)
      · kernel_rfl
      · simp only [List.getElem?_toArray, List.getElem?_cons_succ, List.getElem?_cons_zero]
        rfl
      intro K hK
      go_simp
      skip
      refine hK.out _ _ (Or.inr d9) ?_
      clear hK K
      try simp only [Act.put, List.setIfInBounds_toArray, List.set_cons_zero, List.set_cons_succ]
      apply Till.one (i := 10)
      · kernel_rfl
      · simp only [List.getElem?_toArray, List.getElem?_cons_succ, List.getElem?_cons_zero]
        rfl
      intro K hK
      go_simp
      skip
      refine hK.out _ _ (Or.inl (by rfl)) ?_
      clear hK K
      try simp only [Act.put, List.setIfInBounds_toArray, List.set_cons_zero, List.set_cons_succ]
      refine Till.done (by kernel_rfl) ?_ _
      clear q0 f0 q1 f1 d9
      obtain ⟨wy, hwy⟩ : ∃ x, x = ((wz.setCell ⟨E, 0, none⟩ (.int .i64 Y0.1)).setCell ⟨E, 1, none⟩ (.slice ar_1 Y0.2.length nr_1)) := ⟨_, rfl⟩
      rw [← hwy] at T9 R9 O9 F9 ⊢
      clear hwy
      go_wp2_with fail
      go_meet
      case rel => exact ⟨E, ar_1, nr_1, F_r, _, rfl, rfl, rfl, T9.out, O9.out, F9.out, HEl.out, R9.out⟩
  case rest =>
    obtain ⟨Q_w0, aw0_1, nw0_1, F_w0, w4_, hww, rfl, rfl, hK, hO_w0, hF2_w0, hEl, hb⟩ := hcut
    subst hww
    have hF_w0 := fun b h => (hF2_w0 b h).1
    have D_w0 : Hid (∀ b, F_w0 b → w.heap.size ≤ b) := Lib.hid (fun b h => Nat.le_trans HB.out.size (hF_w0 b h).1)
    replace A0 := Lib.hid (tySpentList.behind A0.out (hb.mono HB.out.size))
    replace A1 := Lib.hid (tySpentList.behind A1.out (hb.mono HB.out.size))
    replace K_p0 := Lib.hid ((hb.block _ (lt_of_block K_p0.out)).trans K_p0.out)
    replace K_p1 := Lib.hid ((hb.block _ (lt_of_block K_p1.out)).trans K_p1.out)
    replace HB := Lib.hid (HB.out.trans (hb.mono HB.out.size))
    clear hb
    have O_w0 := Lib.hid hO_w0
    have E_w0 : Hid (∀ b, F_w0 b → b < w4_.heap.size) := Lib.hid (fun b h => (hF_w0 b h).2)
    have K_w0 := Lib.hid hK
    clear hO_w0 hF_w0 hF2_w0 hK hEl
    -- ('copy', 'x0', 0, 'SpentList')
    have k_p0_0 := blk_cell K_p0.out 0
    rw [cell2_0] at k_p0_0
    have k_p0_1 := blk_cell K_p0.out 1
    rw [cell2_1] at k_p0_1
    have k_p1_0 := blk_cell K_p1.out 0
    rw [cell2_0] at k_p1_0
    have k_p1_1 := blk_cell K_p1.out 1
    rw [cell2_1] at k_p1_1
    have k_w0_0 := blk_cell K_w0.out 0
    rw [cell2_0] at k_w0_0
    have k_w0_1 := blk_cell K_w0.out 1
    rw [cell2_1] at k_w0_1
    go_wp2_with fail
    clear k_p0_0 k_p0_1 k_p1_0 k_p1_1 k_w0_0 k_w0_1
    refine (toSpentList_any A0.out HB.out.size (Nat.le_trans B0t.out (by decide))).mono ?_
    rintro e w5_ ⟨c_x0, he, hO_x0, hb⟩
    subst he
    have hF_x0 : ∀ b, (ival w4_.heap.size w5_.heap.size) b → w4_.heap.size ≤ b ∧ b < w5_.heap.size := fun b h => h
    obtain ⟨ax0_1, nx0_1, _, rfl, _⟩ := own_SpentList hO_x0
    have X_w0_x0 : Hid (∀ b, F_w0 b → ¬ (ival w4_.heap.size w5_.heap.size) b) := Lib.hid (fun b h1 h2 => by have := E_w0.out b h1; have := (hF_x0 b h2).1; omega)
    have N_p0_x0 : Hid (¬ (ival w4_.heap.size w5_.heap.size) (w.heap.size)) := Lib.hid (fun h => by have := (hF_x0 _ h).1; have := lt_of_block K_p0.out; omega)
    have N_p1_x0 : Hid (¬ (ival w4_.heap.size w5_.heap.size) (w.heap.size + 1)) := Lib.hid (fun h => by have := (hF_x0 _ h).1; have := lt_of_block K_p1.out; omega)
    have N_w0_x0 : Hid (¬ (ival w4_.heap.size w5_.heap.size) (Q_w0)) := Lib.hid (fun h => by have := (hF_x0 _ h).1; have := lt_of_block K_w0.out; omega)
    have D_x0 : Hid (∀ b, (ival w4_.heap.size w5_.heap.size) b → w.heap.size ≤ b) := Lib.hid (fun b h => Nat.le_trans HB.out.size (hF_x0 b h).1)
    replace A0 := Lib.hid (tySpentList.behind A0.out (hb.mono HB.out.size))
    replace A1 := Lib.hid (tySpentList.behind A1.out (hb.mono HB.out.size))
    replace O_w0 := Lib.hid (tySpentList.onext O_w0.out hb)
    replace E_w0 : Hid (∀ b, F_w0 b → b < w5_.heap.size) := Lib.hid (fun b h => Nat.lt_of_lt_of_le (E_w0.out b h) hb.size)
    replace K_p0 := Lib.hid ((hb.block _ (lt_of_block K_p0.out)).trans K_p0.out)
    replace K_p1 := Lib.hid ((hb.block _ (lt_of_block K_p1.out)).trans K_p1.out)
    replace K_w0 := Lib.hid ((hb.block _ (lt_of_block K_w0.out)).trans K_w0.out)
    replace HB := Lib.hid (HB.out.trans (hb.mono HB.out.size))
    clear hb
    have O_x0 := Lib.hid hO_x0
    have E_x0 : Hid (∀ b, (ival w4_.heap.size w5_.heap.size) b → b < w5_.heap.size) := Lib.hid (fun b h => (hF_x0 b h).2)
    clear hO_x0 hF_x0
    have hb : Below w5_.heap.size w5_ (w5_.alloc (.cells #[.int .i64 s0.1, .slice ax0_1 s0.2.length nx0_1] 26)) := (Below.refl _ _).alloc (Nat.le_refl _) _
    have N_x0_x0 : Hid (¬ (ival w4_.heap.size w5_.heap.size) w5_.heap.size) := Lib.hid (fun h => by have := E_x0.out _ h; omega)
    replace A0 := Lib.hid (tySpentList.behind A0.out (hb.mono HB.out.size))
    replace A1 := Lib.hid (tySpentList.behind A1.out (hb.mono HB.out.size))
    replace O_w0 := Lib.hid (tySpentList.onext O_w0.out hb)
    replace E_w0 : Hid (∀ b, F_w0 b → b < (w5_.alloc (.cells #[.int .i64 s0.1, .slice ax0_1 s0.2.length nx0_1] 26)).heap.size) := Lib.hid (fun b h => Nat.lt_of_lt_of_le (E_w0.out b h) hb.size)
    replace O_x0 := Lib.hid (tySpentList.onext O_x0.out hb)
    replace E_x0 : Hid (∀ b, (ival w4_.heap.size w5_.heap.size) b → b < (w5_.alloc (.cells #[.int .i64 s0.1, .slice ax0_1 s0.2.length nx0_1] 26)).heap.size) := Lib.hid (fun b h => Nat.lt_of_lt_of_le (E_x0.out b h) hb.size)
    replace K_p0 := Lib.hid ((hb.block _ (lt_of_block K_p0.out)).trans K_p0.out)
    replace K_p1 := Lib.hid ((hb.block _ (lt_of_block K_p1.out)).trans K_p1.out)
    replace K_w0 := Lib.hid ((hb.block _ (lt_of_block K_w0.out)).trans K_w0.out)
    replace HB := Lib.hid (HB.out.trans (hb.mono HB.out.size))
    clear hb
    have K_x0 := Lib.hid (heap_alloc_new w5_ (.cells #[.int .i64 s0.1, .slice ax0_1 s0.2.length nx0_1] 26))
    have k_p0_0 := blk_cell K_p0.out 0
    rw [cell2_0] at k_p0_0
    have k_p0_1 := blk_cell K_p0.out 1
    rw [cell2_1] at k_p0_1
    have k_p1_0 := blk_cell K_p1.out 0
    rw [cell2_0] at k_p1_0
    have k_p1_1 := blk_cell K_p1.out 1
    rw [cell2_1] at k_p1_1
    have k_w0_0 := blk_cell K_w0.out 0
    rw [cell2_0] at k_w0_0
    have k_w0_1 := blk_cell K_w0.out 1
    rw [cell2_1] at k_w0_1
    have k_x0_0 := blk_cell K_x0.out 0
    rw [cell2_0] at k_x0_0
    have k_x0_1 := blk_cell K_x0.out 1
    rw [cell2_1] at k_x0_1
    go_wp2_with fail
    clear k_p0_0 k_p0_1 k_p1_0 k_p1_1 k_w0_0 k_w0_1 k_x0_0 k_x0_1
    obtain ⟨w6_, hw⟩ : ∃ x, x = w5_.alloc (.cells #[.int .i64 s0.1, .slice ax0_1 s0.2.length nx0_1] 26) := ⟨_, rfl⟩
    rw [← hw] at HB A0 A1 O_w0 E_w0 O_x0 E_x0 K_p0 K_p1 K_w0 K_x0 ⊢
    clear hw
    -- ('copy', 'x1', 1, 'SpentList')
    refine (toSpentList_any A1.out HB.out.size (Nat.le_trans B1t.out (by decide))).mono ?_
    rintro e w7_ ⟨c_x1, he, hO_x1, hb⟩
    subst he
    have hF_x1 : ∀ b, (ival w6_.heap.size w7_.heap.size) b → w6_.heap.size ≤ b ∧ b < w7_.heap.size := fun b h => h
    obtain ⟨ax1_1, nx1_1, _, rfl, _⟩ := own_SpentList hO_x1
    have X_w0_x1 : Hid (∀ b, F_w0 b → ¬ (ival w6_.heap.size w7_.heap.size) b) := Lib.hid (fun b h1 h2 => by have := E_w0.out b h1; have := (hF_x1 b h2).1; omega)
    have X_x0_x1 : Hid (∀ b, (ival w4_.heap.size w5_.heap.size) b → ¬ (ival w6_.heap.size w7_.heap.size) b) := Lib.hid (fun b h1 h2 => by have := E_x0.out b h1; have := (hF_x1 b h2).1; omega)
    have N_p0_x1 : Hid (¬ (ival w6_.heap.size w7_.heap.size) (w.heap.size)) := Lib.hid (fun h => by have := (hF_x1 _ h).1; have := lt_of_block K_p0.out; omega)
    have N_p1_x1 : Hid (¬ (ival w6_.heap.size w7_.heap.size) (w.heap.size + 1)) := Lib.hid (fun h => by have := (hF_x1 _ h).1; have := lt_of_block K_p1.out; omega)
    have N_w0_x1 : Hid (¬ (ival w6_.heap.size w7_.heap.size) (Q_w0)) := Lib.hid (fun h => by have := (hF_x1 _ h).1; have := lt_of_block K_w0.out; omega)
    have N_x0_x1 : Hid (¬ (ival w6_.heap.size w7_.heap.size) (w5_.heap.size)) := Lib.hid (fun h => by have := (hF_x1 _ h).1; have := lt_of_block K_x0.out; omega)
    have D_x1 : Hid (∀ b, (ival w6_.heap.size w7_.heap.size) b → w.heap.size ≤ b) := Lib.hid (fun b h => Nat.le_trans HB.out.size (hF_x1 b h).1)
    replace A0 := Lib.hid (tySpentList.behind A0.out (hb.mono HB.out.size))
    replace A1 := Lib.hid (tySpentList.behind A1.out (hb.mono HB.out.size))
    replace O_w0 := Lib.hid (tySpentList.onext O_w0.out hb)
    replace E_w0 : Hid (∀ b, F_w0 b → b < w7_.heap.size) := Lib.hid (fun b h => Nat.lt_of_lt_of_le (E_w0.out b h) hb.size)
    replace O_x0 := Lib.hid (tySpentList.onext O_x0.out hb)
    replace E_x0 : Hid (∀ b, (ival w4_.heap.size w5_.heap.size) b → b < w7_.heap.size) := Lib.hid (fun b h => Nat.lt_of_lt_of_le (E_x0.out b h) hb.size)
    replace K_p0 := Lib.hid ((hb.block _ (lt_of_block K_p0.out)).trans K_p0.out)
    replace K_p1 := Lib.hid ((hb.block _ (lt_of_block K_p1.out)).trans K_p1.out)
    replace K_w0 := Lib.hid ((hb.block _ (lt_of_block K_w0.out)).trans K_w0.out)
    replace K_x0 := Lib.hid ((hb.block _ (lt_of_block K_x0.out)).trans K_x0.out)
    replace HB := Lib.hid (HB.out.trans (hb.mono HB.out.size))
    clear hb
    have O_x1 := Lib.hid hO_x1
    have E_x1 : Hid (∀ b, (ival w6_.heap.size w7_.heap.size) b → b < w7_.heap.size) := Lib.hid (fun b h => (hF_x1 b h).2)
    clear hO_x1 hF_x1
    have hb : Below w7_.heap.size w7_ (w7_.alloc (.cells #[.int .i64 s1.1, .slice ax1_1 s1.2.length nx1_1] 26)) := (Below.refl _ _).alloc (Nat.le_refl _) _
    have N_x1_x0 : Hid (¬ (ival w4_.heap.size w5_.heap.size) w7_.heap.size) := Lib.hid (fun h => by have := E_x0.out _ h; omega)
    have N_x1_x1 : Hid (¬ (ival w6_.heap.size w7_.heap.size) w7_.heap.size) := Lib.hid (fun h => by have := E_x1.out _ h; omega)
    replace A0 := Lib.hid (tySpentList.behind A0.out (hb.mono HB.out.size))
    replace A1 := Lib.hid (tySpentList.behind A1.out (hb.mono HB.out.size))
    replace O_w0 := Lib.hid (tySpentList.onext O_w0.out hb)
    replace E_w0 : Hid (∀ b, F_w0 b → b < (w7_.alloc (.cells #[.int .i64 s1.1, .slice ax1_1 s1.2.length nx1_1] 26)).heap.size) := Lib.hid (fun b h => Nat.lt_of_lt_of_le (E_w0.out b h) hb.size)
    replace O_x0 := Lib.hid (tySpentList.onext O_x0.out hb)
    replace E_x0 : Hid (∀ b, (ival w4_.heap.size w5_.heap.size) b → b < (w7_.alloc (.cells #[.int .i64 s1.1, .slice ax1_1 s1.2.length nx1_1] 26)).heap.size) := Lib.hid (fun b h => Nat.lt_of_lt_of_le (E_x0.out b h) hb.size)
    replace O_x1 := Lib.hid (tySpentList.onext O_x1.out hb)
    replace E_x1 : Hid (∀ b, (ival w6_.heap.size w7_.heap.size) b → b < (w7_.alloc (.cells #[.int .i64 s1.1, .slice ax1_1 s1.2.length nx1_1] 26)).heap.size) := Lib.hid (fun b h => Nat.lt_of_lt_of_le (E_x1.out b h) hb.size)
    replace K_p0 := Lib.hid ((hb.block _ (lt_of_block K_p0.out)).trans K_p0.out)
    replace K_p1 := Lib.hid ((hb.block _ (lt_of_block K_p1.out)).trans K_p1.out)
    replace K_w0 := Lib.hid ((hb.block _ (lt_of_block K_w0.out)).trans K_w0.out)
    replace K_x0 := Lib.hid ((hb.block _ (lt_of_block K_x0.out)).trans K_x0.out)
    replace HB := Lib.hid (HB.out.trans (hb.mono HB.out.size))
    clear hb
    have K_x1 := Lib.hid (heap_alloc_new w7_ (.cells #[.int .i64 s1.1, .slice ax1_1 s1.2.length nx1_1] 26))
    have k_p0_0 := blk_cell K_p0.out 0
    rw [cell2_0] at k_p0_0
    have k_p0_1 := blk_cell K_p0.out 1
    rw [cell2_1] at k_p0_1
    have k_p1_0 := blk_cell K_p1.out 0
    rw [cell2_0] at k_p1_0
    have k_p1_1 := blk_cell K_p1.out 1
    rw [cell2_1] at k_p1_1
    have k_w0_0 := blk_cell K_w0.out 0
    rw [cell2_0] at k_w0_0
    have k_w0_1 := blk_cell K_w0.out 1
    rw [cell2_1] at k_w0_1
    have k_x0_0 := blk_cell K_x0.out 0
    rw [cell2_0] at k_x0_0
    have k_x0_1 := blk_cell K_x0.out 1
    rw [cell2_1] at k_x0_1
    have k_x1_0 := blk_cell K_x1.out 0
    rw [cell2_0] at k_x1_0
    have k_x1_1 := blk_cell K_x1.out 1
    rw [cell2_1] at k_x1_1
    go_wp2_with fail
    clear k_p0_0 k_p0_1 k_p1_0 k_p1_1 k_w0_0 k_w0_1 k_x0_0 k_x0_1 k_x1_0 k_x1_1
    obtain ⟨w8_, hw⟩ : ∃ x, x = w7_.alloc (.cells #[.int .i64 s1.1, .slice ax1_1 s1.2.length nx1_1] 26) := ⟨_, rfl⟩
    rw [← hw] at HB A0 A1 O_w0 E_w0 O_x0 E_x0 O_x1 E_x1 K_p0 K_p1 K_w0 K_x0 K_x1 ⊢
    clear hw
    -- ('call', 'impl', 'MergeSpent', [('own', 'x0'), ('own', 'x1')], ['g0', 'g1'])
    refine (impl_mrg_t (tySpentList.ord O_x0.out) (Nat.le_refl _) (tySpentList.ord O_x1.out) (Nat.le_refl _) B0t.out).mono ?_
    rintro e w9_ ⟨c_g0, F_g0, he, hO_g0, hF_g0, hb⟩
    replace hO_g0 : tySpentList.own F_g0 w9_ c_g0 ((s0.1, mgL s0.1 s1.1 s0.2 s1.2)) := hO_g0
    rw [← HY0.out] at hO_g0
    rw [← HY1.out] at he
    subst he
    obtain ⟨ag0_1, ng0_1, _, rfl, _⟩ := own_SpentList hO_g0
    have X_w0_g0 : Hid (∀ b, F_w0 b → ¬ F_g0 b) := Lib.hid (fun b h1 h2 => by have := E_w0.out b h1; have := (hF_g0 b h2).1; omega)
    have X_x0_g0 : Hid (∀ b, (ival w4_.heap.size w5_.heap.size) b → ¬ F_g0 b) := Lib.hid (fun b h1 h2 => by have := E_x0.out b h1; have := (hF_g0 b h2).1; omega)
    have X_x1_g0 : Hid (∀ b, (ival w6_.heap.size w7_.heap.size) b → ¬ F_g0 b) := Lib.hid (fun b h1 h2 => by have := E_x1.out b h1; have := (hF_g0 b h2).1; omega)
    have N_p0_g0 : Hid (¬ F_g0 (w.heap.size)) := Lib.hid (fun h => by have := (hF_g0 _ h).1; have := lt_of_block K_p0.out; omega)
    have N_p1_g0 : Hid (¬ F_g0 (w.heap.size + 1)) := Lib.hid (fun h => by have := (hF_g0 _ h).1; have := lt_of_block K_p1.out; omega)
    have N_w0_g0 : Hid (¬ F_g0 (Q_w0)) := Lib.hid (fun h => by have := (hF_g0 _ h).1; have := lt_of_block K_w0.out; omega)
    have N_x0_g0 : Hid (¬ F_g0 (w5_.heap.size)) := Lib.hid (fun h => by have := (hF_g0 _ h).1; have := lt_of_block K_x0.out; omega)
    have N_x1_g0 : Hid (¬ F_g0 (w7_.heap.size)) := Lib.hid (fun h => by have := (hF_g0 _ h).1; have := lt_of_block K_x1.out; omega)
    have D_g0 : Hid (∀ b, F_g0 b → w.heap.size ≤ b) := Lib.hid (fun b h => Nat.le_trans HB.out.size (hF_g0 b h).1)
    replace A0 := Lib.hid (tySpentList.behind A0.out (hb.mono HB.out.size))
    replace A1 := Lib.hid (tySpentList.behind A1.out (hb.mono HB.out.size))
    replace O_w0 := Lib.hid (tySpentList.onext O_w0.out hb)
    replace E_w0 : Hid (∀ b, F_w0 b → b < w9_.heap.size) := Lib.hid (fun b h => Nat.lt_of_lt_of_le (E_w0.out b h) hb.size)
    replace O_x0 := Lib.hid (tySpentList.onext O_x0.out hb)
    replace E_x0 : Hid (∀ b, (ival w4_.heap.size w5_.heap.size) b → b < w9_.heap.size) := Lib.hid (fun b h => Nat.lt_of_lt_of_le (E_x0.out b h) hb.size)
    replace O_x1 := Lib.hid (tySpentList.onext O_x1.out hb)
    replace E_x1 : Hid (∀ b, (ival w6_.heap.size w7_.heap.size) b → b < w9_.heap.size) := Lib.hid (fun b h => Nat.lt_of_lt_of_le (E_x1.out b h) hb.size)
    replace K_p0 := Lib.hid ((hb.block _ (lt_of_block K_p0.out)).trans K_p0.out)
    replace K_p1 := Lib.hid ((hb.block _ (lt_of_block K_p1.out)).trans K_p1.out)
    replace K_w0 := Lib.hid ((hb.block _ (lt_of_block K_w0.out)).trans K_w0.out)
    replace K_x0 := Lib.hid ((hb.block _ (lt_of_block K_x0.out)).trans K_x0.out)
    replace K_x1 := Lib.hid ((hb.block _ (lt_of_block K_x1.out)).trans K_x1.out)
    replace HB := Lib.hid (HB.out.trans (hb.mono HB.out.size))
    clear hb
    have O_g0 := Lib.hid hO_g0
    have E_g0 : Hid (∀ b, F_g0 b → b < w9_.heap.size) := Lib.hid (fun b h => (hF_g0 b h).2)
    clear hO_g0 hF_g0
    have N_g0_x0 : Hid (¬ (ival w4_.heap.size w5_.heap.size) (w9_.heap.size)) := Lib.hid (fun h => by have := E_x0.out _ h; omega)
    have N_g0_x1 : Hid (¬ (ival w6_.heap.size w7_.heap.size) (w9_.heap.size)) := Lib.hid (fun h => by have := E_x1.out _ h; omega)
    have N_g0_g0 : Hid (¬ F_g0 (w9_.heap.size)) := Lib.hid (fun h => by have := E_g0.out _ h; omega)
    have hb : Below w9_.heap.size w9_ (w9_.alloc (.cells #[.int .i64 Y0.1, .slice ag0_1 Y0.2.length ng0_1] 26)) := (Below.refl _ _).alloc (Nat.le_refl _) _
    replace A0 := Lib.hid (tySpentList.behind A0.out (hb.mono HB.out.size))
    replace A1 := Lib.hid (tySpentList.behind A1.out (hb.mono HB.out.size))
    replace O_w0 := Lib.hid (tySpentList.onext O_w0.out hb)
    replace E_w0 : Hid (∀ b, F_w0 b → b < (w9_.alloc (.cells #[.int .i64 Y0.1, .slice ag0_1 Y0.2.length ng0_1] 26)).heap.size) := Lib.hid (fun b h => Nat.lt_of_lt_of_le (E_w0.out b h) hb.size)
    replace O_x0 := Lib.hid (tySpentList.onext O_x0.out hb)
    replace E_x0 : Hid (∀ b, (ival w4_.heap.size w5_.heap.size) b → b < (w9_.alloc (.cells #[.int .i64 Y0.1, .slice ag0_1 Y0.2.length ng0_1] 26)).heap.size) := Lib.hid (fun b h => Nat.lt_of_lt_of_le (E_x0.out b h) hb.size)
    replace O_x1 := Lib.hid (tySpentList.onext O_x1.out hb)
    replace E_x1 : Hid (∀ b, (ival w6_.heap.size w7_.heap.size) b → b < (w9_.alloc (.cells #[.int .i64 Y0.1, .slice ag0_1 Y0.2.length ng0_1] 26)).heap.size) := Lib.hid (fun b h => Nat.lt_of_lt_of_le (E_x1.out b h) hb.size)
    replace O_g0 := Lib.hid (tySpentList.onext O_g0.out hb)
    replace E_g0 : Hid (∀ b, F_g0 b → b < (w9_.alloc (.cells #[.int .i64 Y0.1, .slice ag0_1 Y0.2.length ng0_1] 26)).heap.size) := Lib.hid (fun b h => Nat.lt_of_lt_of_le (E_g0.out b h) hb.size)
    replace K_p0 := Lib.hid ((hb.block _ (lt_of_block K_p0.out)).trans K_p0.out)
    replace K_p1 := Lib.hid ((hb.block _ (lt_of_block K_p1.out)).trans K_p1.out)
    replace K_w0 := Lib.hid ((hb.block _ (lt_of_block K_w0.out)).trans K_w0.out)
    replace K_x0 := Lib.hid ((hb.block _ (lt_of_block K_x0.out)).trans K_x0.out)
    replace K_x1 := Lib.hid ((hb.block _ (lt_of_block K_x1.out)).trans K_x1.out)
    replace HB := Lib.hid (HB.out.trans (hb.mono HB.out.size))
    clear hb
    have K_g0 := Lib.hid (heap_alloc_new w9_ (.cells #[.int .i64 Y0.1, .slice ag0_1 Y0.2.length ng0_1] 26))
    have k_p0_0 := blk_cell K_p0.out 0
    rw [cell2_0] at k_p0_0
    have k_p0_1 := blk_cell K_p0.out 1
    rw [cell2_1] at k_p0_1
    have k_p1_0 := blk_cell K_p1.out 0
    rw [cell2_0] at k_p1_0
    have k_p1_1 := blk_cell K_p1.out 1
    rw [cell2_1] at k_p1_1
    have k_w0_0 := blk_cell K_w0.out 0
    rw [cell2_0] at k_w0_0
    have k_w0_1 := blk_cell K_w0.out 1
    rw [cell2_1] at k_w0_1
    have k_x0_0 := blk_cell K_x0.out 0
    rw [cell2_0] at k_x0_0
    have k_x0_1 := blk_cell K_x0.out 1
    rw [cell2_1] at k_x0_1
    have k_x1_0 := blk_cell K_x1.out 0
    rw [cell2_0] at k_x1_0
    have k_x1_1 := blk_cell K_x1.out 1
    rw [cell2_1] at k_x1_1
    have k_g0_0 := blk_cell K_g0.out 0
    rw [cell2_0] at k_g0_0
    have k_g0_1 := blk_cell K_g0.out 1
    rw [cell2_1] at k_g0_1
    go_wp2_with fail
    clear k_p0_0 k_p0_1 k_p1_0 k_p1_1 k_w0_0 k_w0_1 k_x0_0 k_x0_1 k_x1_0 k_x1_1 k_g0_0 k_g0_1
    obtain ⟨w10_, hw⟩ : ∃ x, x = (w9_.alloc (.cells #[.int .i64 Y0.1, .slice ag0_1 Y0.2.length ng0_1] 26)) := ⟨_, rfl⟩
    rw [← hw] at HB A0 A1 O_w0 E_w0 O_x0 E_x0 O_x1 E_x1 O_g0 E_g0 K_p0 K_p1 K_w0 K_x0 K_x1 K_g0 ⊢
    clear hw
    -- ('eq', 'SpentList', ('own', 'g0'), ('own', 'w0'))
    refine (eqSpentList_same (tySpentList.ord O_g0.out) (tySpentList.ord O_w0.out) (Nat.le_refl _) (Nat.le_refl _)).mono ?_
    rintro e w11_ ⟨he, hb⟩
    subst he
    replace A0 := Lib.hid (tySpentList.behind A0.out (hb.mono HB.out.size))
    replace A1 := Lib.hid (tySpentList.behind A1.out (hb.mono HB.out.size))
    replace O_w0 := Lib.hid (tySpentList.onext O_w0.out hb)
    replace E_w0 : Hid (∀ b, F_w0 b → b < w11_.heap.size) := Lib.hid (fun b h => Nat.lt_of_lt_of_le (E_w0.out b h) hb.size)
    replace O_x0 := Lib.hid (tySpentList.onext O_x0.out hb)
    replace E_x0 : Hid (∀ b, (ival w4_.heap.size w5_.heap.size) b → b < w11_.heap.size) := Lib.hid (fun b h => Nat.lt_of_lt_of_le (E_x0.out b h) hb.size)
    replace O_x1 := Lib.hid (tySpentList.onext O_x1.out hb)
    replace E_x1 : Hid (∀ b, (ival w6_.heap.size w7_.heap.size) b → b < w11_.heap.size) := Lib.hid (fun b h => Nat.lt_of_lt_of_le (E_x1.out b h) hb.size)
    replace O_g0 := Lib.hid (tySpentList.onext O_g0.out hb)
    replace E_g0 : Hid (∀ b, F_g0 b → b < w11_.heap.size) := Lib.hid (fun b h => Nat.lt_of_lt_of_le (E_g0.out b h) hb.size)
    replace K_p0 := Lib.hid ((hb.block _ (lt_of_block K_p0.out)).trans K_p0.out)
    replace K_p1 := Lib.hid ((hb.block _ (lt_of_block K_p1.out)).trans K_p1.out)
    replace K_w0 := Lib.hid ((hb.block _ (lt_of_block K_w0.out)).trans K_w0.out)
    replace K_x0 := Lib.hid ((hb.block _ (lt_of_block K_x0.out)).trans K_x0.out)
    replace K_x1 := Lib.hid ((hb.block _ (lt_of_block K_x1.out)).trans K_x1.out)
    replace K_g0 := Lib.hid ((hb.block _ (lt_of_block K_g0.out)).trans K_g0.out)
    replace HB := Lib.hid (HB.out.trans (hb.mono HB.out.size))
    clear hb
    -- ('eq', 'SpentList', ('own', 'x0'), ('copy', 0, 'SpentList'))
    have k_p0_0 := blk_cell K_p0.out 0
    rw [cell2_0] at k_p0_0
    have k_p0_1 := blk_cell K_p0.out 1
    rw [cell2_1] at k_p0_1
    have k_p1_0 := blk_cell K_p1.out 0
    rw [cell2_0] at k_p1_0
    have k_p1_1 := blk_cell K_p1.out 1
    rw [cell2_1] at k_p1_1
    have k_w0_0 := blk_cell K_w0.out 0
    rw [cell2_0] at k_w0_0
    have k_w0_1 := blk_cell K_w0.out 1
    rw [cell2_1] at k_w0_1
    have k_x0_0 := blk_cell K_x0.out 0
    rw [cell2_0] at k_x0_0
    have k_x0_1 := blk_cell K_x0.out 1
    rw [cell2_1] at k_x0_1
    have k_x1_0 := blk_cell K_x1.out 0
    rw [cell2_0] at k_x1_0
    have k_x1_1 := blk_cell K_x1.out 1
    rw [cell2_1] at k_x1_1
    have k_g0_0 := blk_cell K_g0.out 0
    rw [cell2_0] at k_g0_0
    have k_g0_1 := blk_cell K_g0.out 1
    rw [cell2_1] at k_g0_1
    go_wp2_with fail
    clear k_p0_0 k_p0_1 k_p1_0 k_p1_1 k_w0_0 k_w0_1 k_x0_0 k_x0_1 k_x1_0 k_x1_1 k_g0_0 k_g0_1
    have hb : Below w11_.heap.size w11_ w11_.drew := (Below.refl _ _).drew
    replace A0 := Lib.hid (tySpentList.behind A0.out (hb.mono HB.out.size))
    replace A1 := Lib.hid (tySpentList.behind A1.out (hb.mono HB.out.size))
    replace O_w0 := Lib.hid (tySpentList.onext O_w0.out hb)
    replace E_w0 : Hid (∀ b, F_w0 b → b < w11_.drew.heap.size) := Lib.hid (fun b h => Nat.lt_of_lt_of_le (E_w0.out b h) hb.size)
    replace O_x0 := Lib.hid (tySpentList.onext O_x0.out hb)
    replace E_x0 : Hid (∀ b, (ival w4_.heap.size w5_.heap.size) b → b < w11_.drew.heap.size) := Lib.hid (fun b h => Nat.lt_of_lt_of_le (E_x0.out b h) hb.size)
    replace O_x1 := Lib.hid (tySpentList.onext O_x1.out hb)
    replace E_x1 : Hid (∀ b, (ival w6_.heap.size w7_.heap.size) b → b < w11_.drew.heap.size) := Lib.hid (fun b h => Nat.lt_of_lt_of_le (E_x1.out b h) hb.size)
    replace O_g0 := Lib.hid (tySpentList.onext O_g0.out hb)
    replace E_g0 : Hid (∀ b, F_g0 b → b < w11_.drew.heap.size) := Lib.hid (fun b h => Nat.lt_of_lt_of_le (E_g0.out b h) hb.size)
    replace K_p0 := Lib.hid ((hb.block _ (lt_of_block K_p0.out)).trans K_p0.out)
    replace K_p1 := Lib.hid ((hb.block _ (lt_of_block K_p1.out)).trans K_p1.out)
    replace K_w0 := Lib.hid ((hb.block _ (lt_of_block K_w0.out)).trans K_w0.out)
    replace K_x0 := Lib.hid ((hb.block _ (lt_of_block K_x0.out)).trans K_x0.out)
    replace K_x1 := Lib.hid ((hb.block _ (lt_of_block K_x1.out)).trans K_x1.out)
    replace K_g0 := Lib.hid ((hb.block _ (lt_of_block K_g0.out)).trans K_g0.out)
    replace HB := Lib.hid (HB.out.trans (hb.mono HB.out.size))
    clear hb
    have d0 : w11_.drew.cell? ⟨w5_.heap.size, 0, none⟩ = some (.int .i64 s0.1) ∧ w11_.drew.cell? ⟨w5_.heap.size, 1, none⟩ = some (.slice ax0_1 s0.2.length nx0_1) ∧ w11_.drew.cell? ⟨w.heap.size, 0, none⟩ = some (.int .i64 s0.1) ∧ w11_.drew.cell? ⟨w.heap.size, 1, none⟩ = some (.slice a0_1 s0.2.length n0_1) := ⟨(blk_cell K_x0.out 0).trans (cell2_0 _ _), (blk_cell K_x0.out 1).trans (cell2_1 _ _), (blk_cell K_p0.out 0).trans (cell2_0 _ _), (blk_cell K_p0.out 1).trans (cell2_1 _ _)⟩
    go_region_held3 (fun w' => w'.cell? ⟨w5_.heap.size, 0, none⟩ = some (.int .i64 s0.1) ∧ w'.cell? ⟨w5_.heap.size, 1, none⟩ = some (.slice ax0_1 s0.2.length nx0_1) ∧ w'.cell? ⟨w.heap.size, 0, none⟩ = some (.int .i64 s0.1) ∧ w'.cell? ⟨w.heap.size, 1, none⟩ = some (.slice a0_1 s0.2.length n0_1)) (first | assumption | go_keep) ((first
      | (go_at_call 34
         go_loud (refine (toSpentList_any A0.out HB.out.size (Nat.le_trans B0t.out (by decide))).mono ?_
                  rintro e w12_ ⟨c_t1, he, hO_t1, hb⟩
                  subst he
                  have hF_t1 : ∀ b, (ival w11_.drew.heap.size w12_.heap.size) b → w11_.drew.heap.size ≤ b ∧ b < w12_.heap.size := fun b h => h
                  obtain ⟨at1_1, nt1_1, _, rfl, _⟩ := own_SpentList hO_t1
                  have X_x0_t1 : Hid (∀ b, (ival w4_.heap.size w5_.heap.size) b → ¬ (ival w11_.drew.heap.size w12_.heap.size) b) := Lib.hid (fun b h1 h2 => by have := E_x0.out b h1; have := (hF_t1 b h2).1; omega)
                  have X_x1_t1 : Hid (∀ b, (ival w6_.heap.size w7_.heap.size) b → ¬ (ival w11_.drew.heap.size w12_.heap.size) b) := Lib.hid (fun b h1 h2 => by have := E_x1.out b h1; have := (hF_t1 b h2).1; omega)
                  have X_g0_t1 : Hid (∀ b, F_g0 b → ¬ (ival w11_.drew.heap.size w12_.heap.size) b) := Lib.hid (fun b h1 h2 => by have := E_g0.out b h1; have := (hF_t1 b h2).1; omega)
                  have D_t1 : Hid (∀ b, (ival w11_.drew.heap.size w12_.heap.size) b → w.heap.size ≤ b) := Lib.hid (fun b h => Nat.le_trans HB.out.size (hF_t1 b h).1)
                  replace A0 := Lib.hid (tySpentList.behind A0.out (hb.mono HB.out.size))
                  replace A1 := Lib.hid (tySpentList.behind A1.out (hb.mono HB.out.size))
                  replace O_w0 := Lib.hid (tySpentList.onext O_w0.out hb)
                  replace E_w0 : Hid (∀ b, F_w0 b → b < w12_.heap.size) := Lib.hid (fun b h => Nat.lt_of_lt_of_le (E_w0.out b h) hb.size)
                  replace O_x0 := Lib.hid (tySpentList.onext O_x0.out hb)
                  replace E_x0 : Hid (∀ b, (ival w4_.heap.size w5_.heap.size) b → b < w12_.heap.size) := Lib.hid (fun b h => Nat.lt_of_lt_of_le (E_x0.out b h) hb.size)
                  replace O_x1 := Lib.hid (tySpentList.onext O_x1.out hb)
                  replace E_x1 : Hid (∀ b, (ival w6_.heap.size w7_.heap.size) b → b < w12_.heap.size) := Lib.hid (fun b h => Nat.lt_of_lt_of_le (E_x1.out b h) hb.size)
                  replace O_g0 := Lib.hid (tySpentList.onext O_g0.out hb)
                  replace E_g0 : Hid (∀ b, F_g0 b → b < w12_.heap.size) := Lib.hid (fun b h => Nat.lt_of_lt_of_le (E_g0.out b h) hb.size)
                  replace K_p0 := Lib.hid ((hb.block _ (lt_of_block K_p0.out)).trans K_p0.out)
                  replace K_p1 := Lib.hid ((hb.block _ (lt_of_block K_p1.out)).trans K_p1.out)
                  replace K_w0 := Lib.hid ((hb.block _ (lt_of_block K_w0.out)).trans K_w0.out)
                  replace K_x0 := Lib.hid ((hb.block _ (lt_of_block K_x0.out)).trans K_x0.out)
                  replace K_x1 := Lib.hid ((hb.block _ (lt_of_block K_x1.out)).trans K_x1.out)
                  replace K_g0 := Lib.hid ((hb.block _ (lt_of_block K_g0.out)).trans K_g0.out)
                  replace HB := Lib.hid (HB.out.trans (hb.mono HB.out.size))
                  clear hb
                  have O_t1 := Lib.hid hO_t1
                  have E_t1 : Hid (∀ b, (ival w11_.drew.heap.size w12_.heap.size) b → b < w12_.heap.size) := Lib.hid (fun b h => (hF_t1 b h).2)
                  clear hO_t1 hF_t1
                  have d1 : w12_.cell? ⟨w5_.heap.size, 0, none⟩ = some (.int .i64 s0.1) ∧ w12_.cell? ⟨w5_.heap.size, 1, none⟩ = some (.slice ax0_1 s0.2.length nx0_1) ∧ w12_.cell? ⟨w.heap.size, 0, none⟩ = some (.int .i64 s0.1) ∧ w12_.cell? ⟨w.heap.size, 1, none⟩ = some (.slice a0_1 s0.2.length n0_1) := ⟨(blk_cell K_x0.out 0).trans (cell2_0 _ _), (blk_cell K_x0.out 1).trans (cell2_1 _ _), (blk_cell K_p0.out 0).trans (cell2_0 _ _), (blk_cell K_p0.out 1).trans (cell2_1 _ _)⟩))
      | (go_at_call 30
         go_loud (refine (eqSpentList_same (tySpentList.ord O_x0.out) (tySpentList.ord O_t1.out) (Nat.le_refl _) (Nat.le_refl _)).mono ?_
                  rintro e w13_ ⟨he, hb⟩
                  subst he
                  replace A0 := Lib.hid (tySpentList.behind A0.out (hb.mono HB.out.size))
                  replace A1 := Lib.hid (tySpentList.behind A1.out (hb.mono HB.out.size))
                  replace O_w0 := Lib.hid (tySpentList.onext O_w0.out hb)
                  replace E_w0 : Hid (∀ b, F_w0 b → b < w13_.heap.size) := Lib.hid (fun b h => Nat.lt_of_lt_of_le (E_w0.out b h) hb.size)
                  replace O_x0 := Lib.hid (tySpentList.onext O_x0.out hb)
                  replace E_x0 : Hid (∀ b, (ival w4_.heap.size w5_.heap.size) b → b < w13_.heap.size) := Lib.hid (fun b h => Nat.lt_of_lt_of_le (E_x0.out b h) hb.size)
                  replace O_x1 := Lib.hid (tySpentList.onext O_x1.out hb)
                  replace E_x1 : Hid (∀ b, (ival w6_.heap.size w7_.heap.size) b → b < w13_.heap.size) := Lib.hid (fun b h => Nat.lt_of_lt_of_le (E_x1.out b h) hb.size)
                  replace O_g0 := Lib.hid (tySpentList.onext O_g0.out hb)
                  replace E_g0 : Hid (∀ b, F_g0 b → b < w13_.heap.size) := Lib.hid (fun b h => Nat.lt_of_lt_of_le (E_g0.out b h) hb.size)
                  replace O_t1 := Lib.hid (tySpentList.onext O_t1.out hb)
                  replace E_t1 : Hid (∀ b, (ival w11_.drew.heap.size w12_.heap.size) b → b < w13_.heap.size) := Lib.hid (fun b h => Nat.lt_of_lt_of_le (E_t1.out b h) hb.size)
                  replace K_p0 := Lib.hid ((hb.block _ (lt_of_block K_p0.out)).trans K_p0.out)
                  replace K_p1 := Lib.hid ((hb.block _ (lt_of_block K_p1.out)).trans K_p1.out)
                  replace K_w0 := Lib.hid ((hb.block _ (lt_of_block K_w0.out)).trans K_w0.out)
                  replace K_x0 := Lib.hid ((hb.block _ (lt_of_block K_x0.out)).trans K_x0.out)
                  replace K_x1 := Lib.hid ((hb.block _ (lt_of_block K_x1.out)).trans K_x1.out)
                  replace K_g0 := Lib.hid ((hb.block _ (lt_of_block K_g0.out)).trans K_g0.out)
                  replace HB := Lib.hid (HB.out.trans (hb.mono HB.out.size))
                  clear hb
                  have d2 : w13_.cell? ⟨w5_.heap.size, 0, none⟩ = some (.int .i64 s0.1) ∧ w13_.cell? ⟨w5_.heap.size, 1, none⟩ = some (.slice ax0_1 s0.2.length nx0_1) ∧ w13_.cell? ⟨w.heap.size, 0, none⟩ = some (.int .i64 s0.1) ∧ w13_.cell? ⟨w.heap.size, 1, none⟩ = some (.slice a0_1 s0.2.length n0_1) := ⟨(blk_cell K_x0.out 0).trans (cell2_0 _ _), (blk_cell K_x0.out 1).trans (cell2_1 _ _), (blk_cell K_p0.out 0).trans (cell2_0 _ _), (blk_cell K_p0.out 1).trans (cell2_1 _ _)⟩))))
    clear d0 d1 d2
    clear O_t1 E_t1 D_t1
    clear X_x0_t1
    clear X_x1_t1
    clear X_g0_t1
    -- ('eq', 'SpentList', ('own', 'x1'), ('copy', 1, 'SpentList'))
    have k_p0_0 := blk_cell K_p0.out 0
    rw [cell2_0] at k_p0_0
    have k_p0_1 := blk_cell K_p0.out 1
    rw [cell2_1] at k_p0_1
    have k_p1_0 := blk_cell K_p1.out 0
    rw [cell2_0] at k_p1_0
    have k_p1_1 := blk_cell K_p1.out 1
    rw [cell2_1] at k_p1_1
    have k_w0_0 := blk_cell K_w0.out 0
    rw [cell2_0] at k_w0_0
    have k_w0_1 := blk_cell K_w0.out 1
    rw [cell2_1] at k_w0_1
    have k_x0_0 := blk_cell K_x0.out 0
    rw [cell2_0] at k_x0_0
    have k_x0_1 := blk_cell K_x0.out 1
    rw [cell2_1] at k_x0_1
    have k_x1_0 := blk_cell K_x1.out 0
    rw [cell2_0] at k_x1_0
    have k_x1_1 := blk_cell K_x1.out 1
    rw [cell2_1] at k_x1_1
    have k_g0_0 := blk_cell K_g0.out 0
    rw [cell2_0] at k_g0_0
    have k_g0_1 := blk_cell K_g0.out 1
    rw [cell2_1] at k_g0_1
    go_wp2_with fail
    clear k_p0_0 k_p0_1 k_p1_0 k_p1_1 k_w0_0 k_w0_1 k_x0_0 k_x0_1 k_x1_0 k_x1_1 k_g0_0 k_g0_1
    have hb : Below w13_.heap.size w13_ w13_.drew := (Below.refl _ _).drew
    replace A0 := Lib.hid (tySpentList.behind A0.out (hb.mono HB.out.size))
    replace A1 := Lib.hid (tySpentList.behind A1.out (hb.mono HB.out.size))
    replace O_w0 := Lib.hid (tySpentList.onext O_w0.out hb)
    replace E_w0 : Hid (∀ b, F_w0 b → b < w13_.drew.heap.size) := Lib.hid (fun b h => Nat.lt_of_lt_of_le (E_w0.out b h) hb.size)
    replace O_x0 := Lib.hid (tySpentList.onext O_x0.out hb)
    replace E_x0 : Hid (∀ b, (ival w4_.heap.size w5_.heap.size) b → b < w13_.drew.heap.size) := Lib.hid (fun b h => Nat.lt_of_lt_of_le (E_x0.out b h) hb.size)
    replace O_x1 := Lib.hid (tySpentList.onext O_x1.out hb)
    replace E_x1 : Hid (∀ b, (ival w6_.heap.size w7_.heap.size) b → b < w13_.drew.heap.size) := Lib.hid (fun b h => Nat.lt_of_lt_of_le (E_x1.out b h) hb.size)
    replace O_g0 := Lib.hid (tySpentList.onext O_g0.out hb)
    replace E_g0 : Hid (∀ b, F_g0 b → b < w13_.drew.heap.size) := Lib.hid (fun b h => Nat.lt_of_lt_of_le (E_g0.out b h) hb.size)
    replace K_p0 := Lib.hid ((hb.block _ (lt_of_block K_p0.out)).trans K_p0.out)
    replace K_p1 := Lib.hid ((hb.block _ (lt_of_block K_p1.out)).trans K_p1.out)
    replace K_w0 := Lib.hid ((hb.block _ (lt_of_block K_w0.out)).trans K_w0.out)
    replace K_x0 := Lib.hid ((hb.block _ (lt_of_block K_x0.out)).trans K_x0.out)
    replace K_x1 := Lib.hid ((hb.block _ (lt_of_block K_x1.out)).trans K_x1.out)
    replace K_g0 := Lib.hid ((hb.block _ (lt_of_block K_g0.out)).trans K_g0.out)
    replace HB := Lib.hid (HB.out.trans (hb.mono HB.out.size))
    clear hb
    have d0 : w13_.drew.cell? ⟨w7_.heap.size, 0, none⟩ = some (.int .i64 s1.1) ∧ w13_.drew.cell? ⟨w7_.heap.size, 1, none⟩ = some (.slice ax1_1 s1.2.length nx1_1) ∧ w13_.drew.cell? ⟨w.heap.size + 1, 0, none⟩ = some (.int .i64 s1.1) ∧ w13_.drew.cell? ⟨w.heap.size + 1, 1, none⟩ = some (.slice a1_1 s1.2.length n1_1) := ⟨(blk_cell K_x1.out 0).trans (cell2_0 _ _), (blk_cell K_x1.out 1).trans (cell2_1 _ _), (blk_cell K_p1.out 0).trans (cell2_0 _ _), (blk_cell K_p1.out 1).trans (cell2_1 _ _)⟩
    go_region_held3 (fun w' => w'.cell? ⟨w7_.heap.size, 0, none⟩ = some (.int .i64 s1.1) ∧ w'.cell? ⟨w7_.heap.size, 1, none⟩ = some (.slice ax1_1 s1.2.length nx1_1) ∧ w'.cell? ⟨w.heap.size + 1, 0, none⟩ = some (.int .i64 s1.1) ∧ w'.cell? ⟨w.heap.size + 1, 1, none⟩ = some (.slice a1_1 s1.2.length n1_1)) (first | assumption | go_keep) ((first
      | (go_at_call 34
         go_loud (refine (toSpentList_any A1.out HB.out.size (Nat.le_trans B1t.out (by decide))).mono ?_
                  rintro e w14_ ⟨c_t2, he, hO_t2, hb⟩
                  subst he
                  have hF_t2 : ∀ b, (ival w13_.drew.heap.size w14_.heap.size) b → w13_.drew.heap.size ≤ b ∧ b < w14_.heap.size := fun b h => h
                  obtain ⟨at2_1, nt2_1, _, rfl, _⟩ := own_SpentList hO_t2
                  have X_x0_t2 : Hid (∀ b, (ival w4_.heap.size w5_.heap.size) b → ¬ (ival w13_.drew.heap.size w14_.heap.size) b) := Lib.hid (fun b h1 h2 => by have := E_x0.out b h1; have := (hF_t2 b h2).1; omega)
                  have X_x1_t2 : Hid (∀ b, (ival w6_.heap.size w7_.heap.size) b → ¬ (ival w13_.drew.heap.size w14_.heap.size) b) := Lib.hid (fun b h1 h2 => by have := E_x1.out b h1; have := (hF_t2 b h2).1; omega)
                  have X_g0_t2 : Hid (∀ b, F_g0 b → ¬ (ival w13_.drew.heap.size w14_.heap.size) b) := Lib.hid (fun b h1 h2 => by have := E_g0.out b h1; have := (hF_t2 b h2).1; omega)
                  have D_t2 : Hid (∀ b, (ival w13_.drew.heap.size w14_.heap.size) b → w.heap.size ≤ b) := Lib.hid (fun b h => Nat.le_trans HB.out.size (hF_t2 b h).1)
                  replace A0 := Lib.hid (tySpentList.behind A0.out (hb.mono HB.out.size))
                  replace A1 := Lib.hid (tySpentList.behind A1.out (hb.mono HB.out.size))
                  replace O_w0 := Lib.hid (tySpentList.onext O_w0.out hb)
                  replace E_w0 : Hid (∀ b, F_w0 b → b < w14_.heap.size) := Lib.hid (fun b h => Nat.lt_of_lt_of_le (E_w0.out b h) hb.size)
                  replace O_x0 := Lib.hid (tySpentList.onext O_x0.out hb)
                  replace E_x0 : Hid (∀ b, (ival w4_.heap.size w5_.heap.size) b → b < w14_.heap.size) := Lib.hid (fun b h => Nat.lt_of_lt_of_le (E_x0.out b h) hb.size)
                  replace O_x1 := Lib.hid (tySpentList.onext O_x1.out hb)
                  replace E_x1 : Hid (∀ b, (ival w6_.heap.size w7_.heap.size) b → b < w14_.heap.size) := Lib.hid (fun b h => Nat.lt_of_lt_of_le (E_x1.out b h) hb.size)
                  replace O_g0 := Lib.hid (tySpentList.onext O_g0.out hb)
                  replace E_g0 : Hid (∀ b, F_g0 b → b < w14_.heap.size) := Lib.hid (fun b h => Nat.lt_of_lt_of_le (E_g0.out b h) hb.size)
                  replace K_p0 := Lib.hid ((hb.block _ (lt_of_block K_p0.out)).trans K_p0.out)
                  replace K_p1 := Lib.hid ((hb.block _ (lt_of_block K_p1.out)).trans K_p1.out)
                  replace K_w0 := Lib.hid ((hb.block _ (lt_of_block K_w0.out)).trans K_w0.out)
                  replace K_x0 := Lib.hid ((hb.block _ (lt_of_block K_x0.out)).trans K_x0.out)
                  replace K_x1 := Lib.hid ((hb.block _ (lt_of_block K_x1.out)).trans K_x1.out)
                  replace K_g0 := Lib.hid ((hb.block _ (lt_of_block K_g0.out)).trans K_g0.out)
                  replace HB := Lib.hid (HB.out.trans (hb.mono HB.out.size))
                  clear hb
                  have O_t2 := Lib.hid hO_t2
                  have E_t2 : Hid (∀ b, (ival w13_.drew.heap.size w14_.heap.size) b → b < w14_.heap.size) := Lib.hid (fun b h => (hF_t2 b h).2)
                  clear hO_t2 hF_t2
                  have d1 : w14_.cell? ⟨w7_.heap.size, 0, none⟩ = some (.int .i64 s1.1) ∧ w14_.cell? ⟨w7_.heap.size, 1, none⟩ = some (.slice ax1_1 s1.2.length nx1_1) ∧ w14_.cell? ⟨w.heap.size + 1, 0, none⟩ = some (.int .i64 s1.1) ∧ w14_.cell? ⟨w.heap.size + 1, 1, none⟩ = some (.slice a1_1 s1.2.length n1_1) := ⟨(blk_cell K_x1.out 0).trans (cell2_0 _ _), (blk_cell K_x1.out 1).trans (cell2_1 _ _), (blk_cell K_p1.out 0).trans (cell2_0 _ _), (blk_cell K_p1.out 1).trans (cell2_1 _ _)⟩))
      | (go_at_call 30
         go_loud (refine (eqSpentList_same (tySpentList.ord O_x1.out) (tySpentList.ord O_t2.out) (Nat.le_refl _) (Nat.le_refl _)).mono ?_
                  rintro e w15_ ⟨he, hb⟩
                  subst he
                  replace A0 := Lib.hid (tySpentList.behind A0.out (hb.mono HB.out.size))
                  replace A1 := Lib.hid (tySpentList.behind A1.out (hb.mono HB.out.size))
                  replace O_w0 := Lib.hid (tySpentList.onext O_w0.out hb)
                  replace E_w0 : Hid (∀ b, F_w0 b → b < w15_.heap.size) := Lib.hid (fun b h => Nat.lt_of_lt_of_le (E_w0.out b h) hb.size)
                  replace O_x0 := Lib.hid (tySpentList.onext O_x0.out hb)
                  replace E_x0 : Hid (∀ b, (ival w4_.heap.size w5_.heap.size) b → b < w15_.heap.size) := Lib.hid (fun b h => Nat.lt_of_lt_of_le (E_x0.out b h) hb.size)
                  replace O_x1 := Lib.hid (tySpentList.onext O_x1.out hb)
                  replace E_x1 : Hid (∀ b, (ival w6_.heap.size w7_.heap.size) b → b < w15_.heap.size) := Lib.hid (fun b h => Nat.lt_of_lt_of_le (E_x1.out b h) hb.size)
                  replace O_g0 := Lib.hid (tySpentList.onext O_g0.out hb)
                  replace E_g0 : Hid (∀ b, F_g0 b → b < w15_.heap.size) := Lib.hid (fun b h => Nat.lt_of_lt_of_le (E_g0.out b h) hb.size)
                  replace O_t2 := Lib.hid (tySpentList.onext O_t2.out hb)
                  replace E_t2 : Hid (∀ b, (ival w13_.drew.heap.size w14_.heap.size) b → b < w15_.heap.size) := Lib.hid (fun b h => Nat.lt_of_lt_of_le (E_t2.out b h) hb.size)
                  replace K_p0 := Lib.hid ((hb.block _ (lt_of_block K_p0.out)).trans K_p0.out)
                  replace K_p1 := Lib.hid ((hb.block _ (lt_of_block K_p1.out)).trans K_p1.out)
                  replace K_w0 := Lib.hid ((hb.block _ (lt_of_block K_w0.out)).trans K_w0.out)
                  replace K_x0 := Lib.hid ((hb.block _ (lt_of_block K_x0.out)).trans K_x0.out)
                  replace K_x1 := Lib.hid ((hb.block _ (lt_of_block K_x1.out)).trans K_x1.out)
                  replace K_g0 := Lib.hid ((hb.block _ (lt_of_block K_g0.out)).trans K_g0.out)
                  replace HB := Lib.hid (HB.out.trans (hb.mono HB.out.size))
                  clear hb
                  have d2 : w15_.cell? ⟨w7_.heap.size, 0, none⟩ = some (.int .i64 s1.1) ∧ w15_.cell? ⟨w7_.heap.size, 1, none⟩ = some (.slice ax1_1 s1.2.length nx1_1) ∧ w15_.cell? ⟨w.heap.size + 1, 0, none⟩ = some (.int .i64 s1.1) ∧ w15_.cell? ⟨w.heap.size + 1, 1, none⟩ = some (.slice a1_1 s1.2.length n1_1) := ⟨(blk_cell K_x1.out 0).trans (cell2_0 _ _), (blk_cell K_x1.out 1).trans (cell2_1 _ _), (blk_cell K_p1.out 0).trans (cell2_0 _ _), (blk_cell K_p1.out 1).trans (cell2_1 _ _)⟩))))
    clear d0 d1 d2
    clear O_t2 E_t2 D_t2
    clear X_x0_t2
    clear X_x1_t2
    clear X_g0_t2
    -- ('set', 'k', '1')
    -- ('mark', 'k', 'SpentList', 'x0', 'k')
    have hF10 : tySpentList.vcnt s0 ≤ 1099511627776 := vb_sl B0t.out
    obtain ⟨K10, hK10⟩ : ∃ K : Int, K = 1 + ((tySpentList.vcnt s0 : Nat) : Int) := ⟨_, rfl⟩
    have hB10 : 0 ≤ K10 ∧ K10 ≤ 1099511627786 := by omega
    have G10 := Lib.hid hK10
    clear hK10
    have k_p0_0 := blk_cell K_p0.out 0
    rw [cell2_0] at k_p0_0
    have k_p0_1 := blk_cell K_p0.out 1
    rw [cell2_1] at k_p0_1
    have k_p1_0 := blk_cell K_p1.out 0
    rw [cell2_0] at k_p1_0
    have k_p1_1 := blk_cell K_p1.out 1
    rw [cell2_1] at k_p1_1
    have k_w0_0 := blk_cell K_w0.out 0
    rw [cell2_0] at k_w0_0
    have k_w0_1 := blk_cell K_w0.out 1
    rw [cell2_1] at k_w0_1
    have k_x0_0 := blk_cell K_x0.out 0
    rw [cell2_0] at k_x0_0
    have k_x0_1 := blk_cell K_x0.out 1
    rw [cell2_1] at k_x0_1
    have k_x1_0 := blk_cell K_x1.out 0
    rw [cell2_0] at k_x1_0
    have k_x1_1 := blk_cell K_x1.out 1
    rw [cell2_1] at k_x1_1
    have k_g0_0 := blk_cell K_g0.out 0
    rw [cell2_0] at k_g0_0
    have k_g0_1 := blk_cell K_g0.out 1
    rw [cell2_1] at k_g0_1
    go_wp2_with fail
    clear k_p0_0 k_p0_1 k_p1_0 k_p1_1 k_w0_0 k_w0_1 k_x0_0 k_x0_1 k_x1_0 k_x1_1 k_g0_0 k_g0_1
    refine (markSpentList_any (k0 := 1) O_x0.out E_x0.out (by omega) (by omega)).mono ?_
    rintro e w16_ ⟨he, hO, hk⟩
    rw [← G10.out] at he
    subst he
    have hb := hk.below (B := w.heap.size) D_x0.out HB.out.size
    replace A0 := Lib.hid (tySpentList.behind A0.out hb)
    replace A1 := Lib.hid (tySpentList.behind A1.out hb)
    replace O_w0 := Lib.hid (tySpentList.okept O_w0.out hk X_w0_x0.out)
    replace E_w0 : Hid (∀ b, F_w0 b → b < w16_.heap.size) := Lib.hid (fun b h => Nat.lt_of_lt_of_le (E_w0.out b h) hk.size)
    replace E_x0 : Hid (∀ b, (ival w4_.heap.size w5_.heap.size) b → b < w16_.heap.size) := Lib.hid (fun b h => Nat.lt_of_lt_of_le (E_x0.out b h) hk.size)
    replace O_x1 := Lib.hid (tySpentList.okept O_x1.out hk (fun b h1 h2 => X_x0_x1.out b h2 h1))
    replace E_x1 : Hid (∀ b, (ival w6_.heap.size w7_.heap.size) b → b < w16_.heap.size) := Lib.hid (fun b h => Nat.lt_of_lt_of_le (E_x1.out b h) hk.size)
    replace O_g0 := Lib.hid (tySpentList.okept O_g0.out hk (fun b h1 h2 => X_x0_g0.out b h2 h1))
    replace E_g0 : Hid (∀ b, F_g0 b → b < w16_.heap.size) := Lib.hid (fun b h => Nat.lt_of_lt_of_le (E_g0.out b h) hk.size)
    replace K_p0 := Lib.hid ((hk.block _ (lt_of_block K_p0.out) N_p0_x0.out).trans K_p0.out)
    replace K_p1 := Lib.hid ((hk.block _ (lt_of_block K_p1.out) N_p1_x0.out).trans K_p1.out)
    replace K_w0 := Lib.hid ((hk.block _ (lt_of_block K_w0.out) N_w0_x0.out).trans K_w0.out)
    replace K_x0 := Lib.hid ((hk.block _ (lt_of_block K_x0.out) N_x0_x0.out).trans K_x0.out)
    replace K_x1 := Lib.hid ((hk.block _ (lt_of_block K_x1.out) N_x1_x0.out).trans K_x1.out)
    replace K_g0 := Lib.hid ((hk.block _ (lt_of_block K_g0.out) N_g0_x0.out).trans K_g0.out)
    replace HB := Lib.hid (HB.out.trans hb)
    replace O_x0 := Lib.hid hO
    clear hO hk hb
    clear O_x0 E_x0 D_x0
    clear X_w0_x0
    clear X_x0_x1
    clear X_x0_g0
    clear N_p0_x0
    clear N_p1_x0
    clear N_w0_x0
    clear N_x0_x0
    clear N_x1_x0
    clear N_g0_x0
    clear K_x0
    clear N_x0_x1
    clear N_x0_g0
    -- ('mark', 'k', 'SpentList', 'x1', 'k')
    have hF11 : tySpentList.vcnt s1 ≤ 1099511627776 := vb_sl B1t.out
    obtain ⟨K11, hK11⟩ : ∃ K : Int, K = K10 + ((tySpentList.vcnt s1 : Nat) : Int) := ⟨_, rfl⟩
    have hB11 : 0 ≤ K11 ∧ K11 ≤ 2199023255562 := by omega
    have G11 := Lib.hid hK11
    clear hK11
    have k_p0_0 := blk_cell K_p0.out 0
    rw [cell2_0] at k_p0_0
    have k_p0_1 := blk_cell K_p0.out 1
    rw [cell2_1] at k_p0_1
    have k_p1_0 := blk_cell K_p1.out 0
    rw [cell2_0] at k_p1_0
    have k_p1_1 := blk_cell K_p1.out 1
    rw [cell2_1] at k_p1_1
    have k_w0_0 := blk_cell K_w0.out 0
    rw [cell2_0] at k_w0_0
    have k_w0_1 := blk_cell K_w0.out 1
    rw [cell2_1] at k_w0_1
    have k_x1_0 := blk_cell K_x1.out 0
    rw [cell2_0] at k_x1_0
    have k_x1_1 := blk_cell K_x1.out 1
    rw [cell2_1] at k_x1_1
    have k_g0_0 := blk_cell K_g0.out 0
    rw [cell2_0] at k_g0_0
    have k_g0_1 := blk_cell K_g0.out 1
    rw [cell2_1] at k_g0_1
    go_wp2_with fail
    clear k_p0_0 k_p0_1 k_p1_0 k_p1_1 k_w0_0 k_w0_1 k_x1_0 k_x1_1 k_g0_0 k_g0_1
    refine (markSpentList_any (k0 := K10) O_x1.out E_x1.out (by omega) (by omega)).mono ?_
    rintro e w17_ ⟨he, hO, hk⟩
    rw [← G11.out] at he
    subst he
    have hb := hk.below (B := w.heap.size) D_x1.out HB.out.size
    replace A0 := Lib.hid (tySpentList.behind A0.out hb)
    replace A1 := Lib.hid (tySpentList.behind A1.out hb)
    replace O_w0 := Lib.hid (tySpentList.okept O_w0.out hk X_w0_x1.out)
    replace E_w0 : Hid (∀ b, F_w0 b → b < w17_.heap.size) := Lib.hid (fun b h => Nat.lt_of_lt_of_le (E_w0.out b h) hk.size)
    replace E_x1 : Hid (∀ b, (ival w6_.heap.size w7_.heap.size) b → b < w17_.heap.size) := Lib.hid (fun b h => Nat.lt_of_lt_of_le (E_x1.out b h) hk.size)
    replace O_g0 := Lib.hid (tySpentList.okept O_g0.out hk (fun b h1 h2 => X_x1_g0.out b h2 h1))
    replace E_g0 : Hid (∀ b, F_g0 b → b < w17_.heap.size) := Lib.hid (fun b h => Nat.lt_of_lt_of_le (E_g0.out b h) hk.size)
    replace K_p0 := Lib.hid ((hk.block _ (lt_of_block K_p0.out) N_p0_x1.out).trans K_p0.out)
    replace K_p1 := Lib.hid ((hk.block _ (lt_of_block K_p1.out) N_p1_x1.out).trans K_p1.out)
    replace K_w0 := Lib.hid ((hk.block _ (lt_of_block K_w0.out) N_w0_x1.out).trans K_w0.out)
    replace K_x1 := Lib.hid ((hk.block _ (lt_of_block K_x1.out) N_x1_x1.out).trans K_x1.out)
    replace K_g0 := Lib.hid ((hk.block _ (lt_of_block K_g0.out) N_g0_x1.out).trans K_g0.out)
    replace HB := Lib.hid (HB.out.trans hb)
    replace O_x1 := Lib.hid hO
    clear hO hk hb
    clear O_x1 E_x1 D_x1
    clear X_w0_x1
    clear X_x1_g0
    clear N_p0_x1
    clear N_p1_x1
    clear N_w0_x1
    clear N_x1_x1
    clear N_g0_x1
    clear K_x1
    clear N_x1_g0
    -- ('eq', 'SpentList', ('own', 'g0'), ('own', 'w0'))
    have k_p0_0 := blk_cell K_p0.out 0
    rw [cell2_0] at k_p0_0
    have k_p0_1 := blk_cell K_p0.out 1
    rw [cell2_1] at k_p0_1
    have k_p1_0 := blk_cell K_p1.out 0
    rw [cell2_0] at k_p1_0
    have k_p1_1 := blk_cell K_p1.out 1
    rw [cell2_1] at k_p1_1
    have k_w0_0 := blk_cell K_w0.out 0
    rw [cell2_0] at k_w0_0
    have k_w0_1 := blk_cell K_w0.out 1
    rw [cell2_1] at k_w0_1
    have k_g0_0 := blk_cell K_g0.out 0
    rw [cell2_0] at k_g0_0
    have k_g0_1 := blk_cell K_g0.out 1
    rw [cell2_1] at k_g0_1
    go_wp2_with fail
    clear k_p0_0 k_p0_1 k_p1_0 k_p1_1 k_w0_0 k_w0_1 k_g0_0 k_g0_1
    refine (eqSpentList_same (tySpentList.ord O_g0.out) (tySpentList.ord O_w0.out) (Nat.le_refl _) (Nat.le_refl _)).mono ?_
    rintro e w18_ ⟨he, hb⟩
    subst he
    replace A0 := Lib.hid (tySpentList.behind A0.out (hb.mono HB.out.size))
    replace A1 := Lib.hid (tySpentList.behind A1.out (hb.mono HB.out.size))
    replace O_w0 := Lib.hid (tySpentList.onext O_w0.out hb)
    replace E_w0 : Hid (∀ b, F_w0 b → b < w18_.heap.size) := Lib.hid (fun b h => Nat.lt_of_lt_of_le (E_w0.out b h) hb.size)
    replace O_g0 := Lib.hid (tySpentList.onext O_g0.out hb)
    replace E_g0 : Hid (∀ b, F_g0 b → b < w18_.heap.size) := Lib.hid (fun b h => Nat.lt_of_lt_of_le (E_g0.out b h) hb.size)
    replace K_p0 := Lib.hid ((hb.block _ (lt_of_block K_p0.out)).trans K_p0.out)
    replace K_p1 := Lib.hid ((hb.block _ (lt_of_block K_p1.out)).trans K_p1.out)
    replace K_w0 := Lib.hid ((hb.block _ (lt_of_block K_w0.out)).trans K_w0.out)
    replace K_g0 := Lib.hid ((hb.block _ (lt_of_block K_g0.out)).trans K_g0.out)
    replace HB := Lib.hid (HB.out.trans (hb.mono HB.out.size))
    clear hb
    -- ('set', 'm', '1')
    -- ('mark', 'm', 'SpentList', 'g0', 'm')
    have hF14 : tySpentList.vcnt Y0 ≤ 1099511627776 := by rw [HY0.out]; exact vb_mg B0t.out _ _
    obtain ⟨K14, hK14⟩ : ∃ K : Int, K = 1 + ((tySpentList.vcnt Y0 : Nat) : Int) := ⟨_, rfl⟩
    have hB14 : 0 ≤ K14 ∧ K14 ≤ 3298534883338 := by omega
    have G14 := Lib.hid hK14
    clear hK14
    have k_p0_0 := blk_cell K_p0.out 0
    rw [cell2_0] at k_p0_0
    have k_p0_1 := blk_cell K_p0.out 1
    rw [cell2_1] at k_p0_1
    have k_p1_0 := blk_cell K_p1.out 0
    rw [cell2_0] at k_p1_0
    have k_p1_1 := blk_cell K_p1.out 1
    rw [cell2_1] at k_p1_1
    have k_w0_0 := blk_cell K_w0.out 0
    rw [cell2_0] at k_w0_0
    have k_w0_1 := blk_cell K_w0.out 1
    rw [cell2_1] at k_w0_1
    have k_g0_0 := blk_cell K_g0.out 0
    rw [cell2_0] at k_g0_0
    have k_g0_1 := blk_cell K_g0.out 1
    rw [cell2_1] at k_g0_1
    go_wp2_with fail
    clear k_p0_0 k_p0_1 k_p1_0 k_p1_1 k_w0_0 k_w0_1 k_g0_0 k_g0_1
    refine (markSpentList_any (k0 := 1) O_g0.out E_g0.out (by omega) (by omega)).mono ?_
    rintro e w19_ ⟨he, hO, hk⟩
    rw [← G14.out] at he
    subst he
    have hb := hk.below (B := w.heap.size) D_g0.out HB.out.size
    replace A0 := Lib.hid (tySpentList.behind A0.out hb)
    replace A1 := Lib.hid (tySpentList.behind A1.out hb)
    replace O_w0 := Lib.hid (tySpentList.okept O_w0.out hk X_w0_g0.out)
    replace E_w0 : Hid (∀ b, F_w0 b → b < w19_.heap.size) := Lib.hid (fun b h => Nat.lt_of_lt_of_le (E_w0.out b h) hk.size)
    replace E_g0 : Hid (∀ b, F_g0 b → b < w19_.heap.size) := Lib.hid (fun b h => Nat.lt_of_lt_of_le (E_g0.out b h) hk.size)
    replace K_p0 := Lib.hid ((hk.block _ (lt_of_block K_p0.out) N_p0_g0.out).trans K_p0.out)
    replace K_p1 := Lib.hid ((hk.block _ (lt_of_block K_p1.out) N_p1_g0.out).trans K_p1.out)
    replace K_w0 := Lib.hid ((hk.block _ (lt_of_block K_w0.out) N_w0_g0.out).trans K_w0.out)
    replace K_g0 := Lib.hid ((hk.block _ (lt_of_block K_g0.out) N_g0_g0.out).trans K_g0.out)
    replace HB := Lib.hid (HB.out.trans hb)
    replace O_g0 := Lib.hid hO
    clear hO hk hb
    -- ('set', 'q', '1')
    -- ('held', 'q', 'SpentList', 'g0', 'q')
    have k_p0_0 := blk_cell K_p0.out 0
    rw [cell2_0] at k_p0_0
    have k_p0_1 := blk_cell K_p0.out 1
    rw [cell2_1] at k_p0_1
    have k_p1_0 := blk_cell K_p1.out 0
    rw [cell2_0] at k_p1_0
    have k_p1_1 := blk_cell K_p1.out 1
    rw [cell2_1] at k_p1_1
    have k_w0_0 := blk_cell K_w0.out 0
    rw [cell2_0] at k_w0_0
    have k_w0_1 := blk_cell K_w0.out 1
    rw [cell2_1] at k_w0_1
    have k_g0_0 := blk_cell K_g0.out 0
    rw [cell2_0] at k_g0_0
    have k_g0_1 := blk_cell K_g0.out 1
    rw [cell2_1] at k_g0_1
    go_wp2_with fail
    clear k_p0_0 k_p0_1 k_p1_0 k_p1_1 k_w0_0 k_w0_1 k_g0_0 k_g0_1
    refine (heldSpentList_any (x := Y0) (k0 := 1) (tySpentList.ord O_g0.out) (Nat.le_refl _) (by omega) (by omega)).mono ?_
    rintro e w20_ ⟨he, hb⟩
    rw [← G14.out] at he
    subst he
    replace A0 := Lib.hid (tySpentList.behind A0.out (hb.mono HB.out.size))
    replace A1 := Lib.hid (tySpentList.behind A1.out (hb.mono HB.out.size))
    replace O_w0 := Lib.hid (tySpentList.onext O_w0.out hb)
    replace E_w0 : Hid (∀ b, F_w0 b → b < w20_.heap.size) := Lib.hid (fun b h => Nat.lt_of_lt_of_le (E_w0.out b h) hb.size)
    replace O_g0 := Lib.hid (tySpentList.onext O_g0.out hb)
    replace E_g0 : Hid (∀ b, F_g0 b → b < w20_.heap.size) := Lib.hid (fun b h => Nat.lt_of_lt_of_le (E_g0.out b h) hb.size)
    replace K_p0 := Lib.hid ((hb.block _ (lt_of_block K_p0.out)).trans K_p0.out)
    replace K_p1 := Lib.hid ((hb.block _ (lt_of_block K_p1.out)).trans K_p1.out)
    replace K_w0 := Lib.hid ((hb.block _ (lt_of_block K_w0.out)).trans K_w0.out)
    replace K_g0 := Lib.hid ((hb.block _ (lt_of_block K_g0.out)).trans K_g0.out)
    replace HB := Lib.hid (HB.out.trans (hb.mono HB.out.size))
    clear hb
    have dd16 : decide (K14 < 0) = false := by simp; omega
    -- ('call', 'impl', 'MergeSpent', [('copy', 0, 'SpentList'), ('copy', 1, 'SpentList')], ['h0', 'h1'])
    have k_p0_0 := blk_cell K_p0.out 0
    rw [cell2_0] at k_p0_0
    have k_p0_1 := blk_cell K_p0.out 1
    rw [cell2_1] at k_p0_1
    have k_p1_0 := blk_cell K_p1.out 0
    rw [cell2_0] at k_p1_0
    have k_p1_1 := blk_cell K_p1.out 1
    rw [cell2_1] at k_p1_1
    have k_w0_0 := blk_cell K_w0.out 0
    rw [cell2_0] at k_w0_0
    have k_w0_1 := blk_cell K_w0.out 1
    rw [cell2_1] at k_w0_1
    have k_g0_0 := blk_cell K_g0.out 0
    rw [cell2_0] at k_g0_0
    have k_g0_1 := blk_cell K_g0.out 1
    rw [cell2_1] at k_g0_1
    go_wp2_with fail
    clear k_p0_0 k_p0_1 k_p1_0 k_p1_1 k_w0_0 k_w0_1 k_g0_0 k_g0_1
    go_cut [15, 16] (fun p0 p1 wx => ∃ (E : Nat) (ar_1 : Option Addr) (nr_1 : Nat) (F : Nat → Prop) (WW : World), WW = wx ∧ p0 = .pointer (some ⟨E, 0, none⟩) ∧ p1 = .int .i64 Y1 ∧ wx.heap[E]? = some (.cells #[.int .i64 Y0.1, .slice ar_1 Y0.2.length nr_1] 26 (0, 0)) ∧ tySpentList.own F wx [.int .i64 Y0.1, .slice ar_1 Y0.2.length nr_1] Y0 ∧ (∀ b, F b → (w20_.heap.size ≤ b ∧ b < wx.heap.size) ∧ b ≠ E) ∧ w20_.heap.size ≤ E ∧ Below w20_.heap.size w20_ wx)
    case first =>
      refine region_till (fun x => x.cell? ⟨w.heap.size, 0, none⟩ = some (.int .i64 s0.1) ∧ x.cell? ⟨w.heap.size, 1, none⟩ = some (.slice a0_1 s0.2.length n0_1) ∧ x.cell? ⟨w.heap.size + 1, 0, none⟩ = some (.int .i64 s1.1) ∧ x.cell? ⟨w.heap.size + 1, 1, none⟩ = some (.slice a1_1 s1.2.length n1_1)) 10 (by kernel_rfl) ?_
      obtain ⟨wd, hwd⟩ : ∃ x, x = w20_.drew := ⟨_, rfl⟩
      have HR : Hid (Below w20_.heap.size w20_ wd) := Lib.hid (by rw [hwd]; exact (Below.refl _ _).drew)
      have HSr : Hid (∀ x, Below w20_.heap.size w20_ x → (x.cell? ⟨w.heap.size, 0, none⟩ = some (.int .i64 s0.1) ∧ x.cell? ⟨w.heap.size, 1, none⟩ = some (.slice a0_1 s0.2.length n0_1) ∧ x.cell? ⟨w.heap.size + 1, 0, none⟩ = some (.int .i64 s1.1) ∧ x.cell? ⟨w.heap.size + 1, 1, none⟩ = some (.slice a1_1 s1.2.length n1_1))) := Lib.hid (fun x hx => ⟨(blk_cell ((hx.block _ (lt_of_block K_p0.out)).trans K_p0.out) 0).trans (cell2_0 _ _), (blk_cell ((hx.block _ (lt_of_block K_p0.out)).trans K_p0.out) 1).trans (cell2_1 _ _), (blk_cell ((hx.block _ (lt_of_block K_p1.out)).trans K_p1.out) 0).trans (cell2_0 _ _), (blk_cell ((hx.block _ (lt_of_block K_p1.out)).trans K_p1.out) 1).trans (cell2_1 _ _)⟩)
      have d0 := HSr.out _ HR.out
      rw [← hwd]
      clear hwd
      apply Till.take (i := 0) [0, 1, 4, 5, 7, 10]
      · simp only [List.getElem?_toArray, List.getElem?_cons_zero]
        rfl
      · kernel_rfl
      · kernel_rfl
      · kernel_rfl
      · kernel_rfl
      · exact fun _ _ _ h => h
      · first
          | exact Or.inr ⟨by rfl, rfl⟩
          | (refine Or.inl ⟨by rfl, fun wq hwq => ?_⟩
             dsimp only at hwq
             go_simp
             first
               | done
               | rfl)
      · exact d0
      simp only [Act.put, List.setIfInBounds_toArray, List.set_cons_zero, List.set_cons_succ]
      apply Till.take (i := 2) [2, 3, 4, 5, 7, 10]
      · simp only [List.getElem?_toArray, List.getElem?_cons_succ, List.getElem?_cons_zero]
        rfl
      · kernel_rfl
      · kernel_rfl
      · kernel_rfl
      · kernel_rfl
      · exact fun _ _ _ h => h
      · first
          | exact Or.inr ⟨by rfl, rfl⟩
          | (refine Or.inl ⟨by rfl, fun wq hwq => ?_⟩
             dsimp only at hwq
             go_simp
             first
               | done
               | rfl)
      · exact d0
      simp only [Act.put, List.setIfInBounds_toArray, List.set_cons_zero, List.set_cons_succ]
      apply Till.two (i := 1) (j := 8)
      · kernel_rfl
      · simp only [List.getElem?_toArray, List.getElem?_cons_succ, List.getElem?_cons_zero]
        rfl
      · simp only [List.getElem?_toArray, List.getElem?_cons_succ, List.getElem?_cons_zero]
        rfl
      · intro K0 hK
        go_simp
        refine (toSpentList_any (tySpentList.behind A0.out (HR.out.mono HB.out.size)) (Nat.le_trans HB.out.size HR.out.size) (Nat.le_trans B0t.out (by decide))).mono ?_
        rintro e' x1 ⟨c_z0, he, hO_z0, hb⟩
        subst he
        obtain ⟨az0_1, nz0_1, _, rfl, _⟩ := own_SpentList hO_z0
        replace HR := Lib.hid (HR.out.trans (hb.mono HR.out.size))
        clear hb d0
        have d0 := HSr.out _ HR.out
        have HO_z0 := Lib.hid hO_z0
        clear hO_z0
        refine hK.out _ _ (Or.inr d0) ?_
        clear hK K0
        try simp only [Act.put, List.setIfInBounds_toArray, List.set_cons_zero, List.set_cons_succ]
        apply Till.two (i := 3) (j := 8)
        · kernel_rfl
        · simp only [List.getElem?_toArray, List.getElem?_cons_succ, List.getElem?_cons_zero]
          rfl
        · simp only [List.getElem?_toArray, List.getElem?_cons_succ, List.getElem?_cons_zero]
          rfl
        · intro K0 hK
          go_simp
          refine (toSpentList_any (tySpentList.behind A1.out (HR.out.mono HB.out.size)) (Nat.le_trans HB.out.size HR.out.size) (Nat.le_trans B1t.out (by decide))).mono ?_
          rintro e' x2 ⟨c_z1, he, hO_z1, hb⟩
          subst he
          obtain ⟨az1_1, nz1_1, _, rfl, _⟩ := own_SpentList hO_z1
          replace HO_z0 := Lib.hid (tySpentList.onext HO_z0.out hb)
          replace HR := Lib.hid (HR.out.trans (hb.mono HR.out.size))
          clear hb d0
          have d0 := HSr.out _ HR.out
          have HO_z1 := Lib.hid hO_z1
          clear hO_z1
          refine hK.out _ _ (Or.inr d0) ?_
          clear hK K0
          try simp only [Act.put, List.setIfInBounds_toArray, List.set_cons_zero, List.set_cons_succ]
          apply Till.two (i := 4) (j := 8)
          · kernel_rfl
          · simp only [List.getElem?_toArray, List.getElem?_cons_succ, List.getElem?_cons_zero]
            rfl
          · simp only [List.getElem?_toArray, List.getElem?_cons_succ, List.getElem?_cons_zero]
            rfl
          · intro K0 hK
            go_simp
            refine (impl_mrg_t (tySpentList.ord HO_z0.out) (Nat.le_refl _) (tySpentList.ord HO_z1.out) (Nat.le_refl _) B0t.out).mono ?_
            rintro e' x3 ⟨c_r, F_r, he, hO_r, hF_r, hb⟩
            replace hO_r : tySpentList.own F_r x3 c_r ((s0.1, mgL s0.1 s1.1 s0.2 s1.2)) := hO_r
            rw [← HY0.out] at hO_r
            rw [← HY1.out] at he
            subst he
            obtain ⟨ar_1, nr_1, _, rfl, _⟩ := own_SpentList hO_r
            have HFr : Hid (∀ b, F_r b → w20_.heap.size ≤ b ∧ b < x3.heap.size) := Lib.hid (fun b h => ⟨Nat.le_trans HR.out.size (hF_r b h).1, (hF_r b h).2⟩)
            replace HO_z0 := Lib.hid (tySpentList.onext HO_z0.out hb)
            replace HO_z1 := Lib.hid (tySpentList.onext HO_z1.out hb)
            replace HR := Lib.hid (HR.out.trans (hb.mono HR.out.size))
            clear hb d0
            have d0 := HSr.out _ HR.out
            have HOr := Lib.hid hO_r
            clear hO_r hF_r
            refine hK.out _ _ (Or.inr d0) ?_
            clear hK K0
            try simp only [Act.put, List.setIfInBounds_toArray, List.set_cons_zero, List.set_cons_succ]
            apply Till.take (i := 5) [5, 7, 10]
            · simp only [List.getElem?_toArray, List.getElem?_cons_succ, List.getElem?_cons_zero]
              rfl
            · kernel_rfl
            · kernel_rfl
            · kernel_rfl
            · kernel_rfl
            · exact fun _ _ _ h => h
            · first
                | exact Or.inr ⟨by rfl, rfl⟩
                | (refine Or.inl ⟨by rfl, fun wq hwq => ?_⟩
                   dsimp only at hwq
                   go_simp
                   first
                     | done
                     | rfl)
            · exact d0
            simp only [Act.put, List.setIfInBounds_toArray, List.set_cons_zero, List.set_cons_succ]
            apply Till.take (i := 6) [6, 9, 10]
            · simp only [List.getElem?_toArray, List.getElem?_cons_succ, List.getElem?_cons_zero]
              rfl
            · kernel_rfl
            · kernel_rfl
            · kernel_rfl
            · kernel_rfl
            · exact fun _ _ _ h => h
            · first
                | exact Or.inr ⟨by rfl, rfl⟩
                | (refine Or.inl ⟨by rfl, fun wq hwq => ?_⟩
                   dsimp only at hwq
                   go_simp
                   first
                     | done
                     | rfl)
            · exact d0
            simp only [Act.put, List.setIfInBounds_toArray, List.set_cons_zero, List.set_cons_succ]
            apply Till.take (i := 7) [7, 10]
            · simp only [List.getElem?_toArray, List.getElem?_cons_succ, List.getElem?_cons_zero]
              rfl
            · kernel_rfl
            · kernel_rfl
            · kernel_rfl
            · kernel_rfl
            · exact fun _ _ _ h => h
            · first
                | exact Or.inr ⟨by rfl, rfl⟩
                | (refine Or.inl ⟨by rfl, fun wq hwq => ?_⟩
                   dsimp only at hwq
                   go_simp
                   first
                     | done
                     | rfl)
            · exact d0
            simp only [Act.put, List.setIfInBounds_toArray, List.set_cons_zero, List.set_cons_succ]
            apply Till.one (i := 8)
            · kernel_rfl
            · simp only [List.getElem?_toArray, List.getElem?_cons_succ, List.getElem?_cons_zero]
              rfl
            intro K hK
            go_simp
            have hb : Below x3.heap.size x3 (x3.alloc (.cells #[.int .i64 0, .slice none 0 0] 26)) := (Below.refl _ _).alloc (Nat.le_refl _) _
            have HE0 := Lib.hid (heap_alloc_new x3 (.cells #[.int .i64 0, .slice none 0 0] 26))
            have HEl := Lib.hid HR.out.size
            replace HFr : Hid (∀ b, F_r b → (w20_.heap.size ≤ b ∧ b < (x3.alloc (.cells #[.int .i64 0, .slice none 0 0] 26)).heap.size) ∧ b ≠ x3.heap.size) := Lib.hid (fun b h => ⟨⟨(HFr.out b h).1, Nat.lt_of_lt_of_le (HFr.out b h).2 hb.size⟩, by have := (HFr.out b h).2; omega⟩)
            replace HO_z0 := Lib.hid (tySpentList.onext HO_z0.out hb)
            replace HO_z1 := Lib.hid (tySpentList.onext HO_z1.out hb)
            replace HOr := Lib.hid (tySpentList.onext HOr.out hb)
            replace HR := Lib.hid (HR.out.trans (hb.mono HR.out.size))
            clear hb d0
            have d0 := HSr.out _ HR.out
            refine hK.out _ _ (Or.inr d0) ?_
            clear hK K
            try simp only [Act.put, List.setIfInBounds_toArray, List.set_cons_zero, List.set_cons_succ]
            obtain ⟨x4, hwa⟩ : ∃ x, x = x3.alloc (.cells #[.int .i64 0, .slice none 0 0] 26) := ⟨_, rfl⟩
            obtain ⟨E, hE⟩ : ∃ x, x = x3.heap.size := ⟨_, rfl⟩
            rw [← hwa] at HE0 HR d0 HO_z0 HO_z1 HOr HFr ⊢
            rw [← hE] at HE0 HEl HFr ⊢
            have HE := HE0
            clear hwa hE HE0
            obtain ⟨wz, hwz⟩ : ∃ x, x = x4 := ⟨_, rfl⟩
            rw [← hwz] at HE HR HOr HFr d0 ⊢
            clear hwz
            have q0 := (blk_cell HE.out 0).trans (cell2_0 _ _)
            have f0 := blk_free HE.out 0
            have q1 := (blk_cell HE.out 1).trans (cell2_1 _ _)
            have f1 := blk_free HE.out 1
            have s0t : (wz.setCell ⟨E, 0, none⟩ (.int .i64 Y0.1)).heap[E]? = some (.cells #[.int .i64 Y0.1, .slice none 0 0] 26 (0, 0)) := blk_set HE.out 0 (.int .i64 Y0.1)
            have s1t : ((wz.setCell ⟨E, 0, none⟩ (.int .i64 Y0.1)).setCell ⟨E, 1, none⟩ (.slice ar_1 Y0.2.length nr_1)).heap[E]? = some (.cells #[.int .i64 Y0.1, .slice ar_1 Y0.2.length nr_1] 26 (0, 0)) := blk_set s0t 1 (.slice ar_1 Y0.2.length nr_1)
            have t3 : wz.grownBy ((wz.setCell ⟨E, 0, none⟩ (.int .i64 Y0.1)).setCell ⟨E, 1, none⟩ (.slice ar_1 Y0.2.length nr_1)) (some E) := grown_trans (grown_set _ _ _ _) (grown_set _ _ _ _)
            have R9 := Lib.hid (HR.out.grown t3 HR.out.size (fun k hk => by injection hk with hk; have := HEl.out; omega))
            have O9 := Lib.hid (tySpentList.okept (G := fun b => b = E) HOr.out (KeptF.of_grown t3 (fun b h => by injection h with h; exact h.symm)) (fun b hb h => (HFr.out b hb).2 h))
            have F9 : Hid (∀ b, F_r b → (w20_.heap.size ≤ b ∧ b < ((wz.setCell ⟨E, 0, none⟩ (.int .i64 Y0.1)).setCell ⟨E, 1, none⟩ (.slice ar_1 Y0.2.length nr_1)).heap.size) ∧ b ≠ E) := Lib.hid (fun b h => ⟨⟨(HFr.out b h).1.1, Nat.lt_of_lt_of_le (HFr.out b h).1.2 t3.size⟩, (HFr.out b h).2⟩)
            have d9 := HSr.out _ R9.out
            have T9 := Lib.hid s1t
            clear t3 s0t s1t
            apply Till.one (i := 9)
            · kernel_rfl
            · simp only [List.getElem?_toArray, List.getElem?_cons_succ, List.getElem?_cons_zero]
              rfl
            intro K hK
            go_simp
            skip
            refine hK.out _ _ (Or.inr d9) ?_
            clear hK K
            try simp only [Act.put, List.setIfInBounds_toArray, List.set_cons_zero, List.set_cons_succ]
            apply Till.one (i := 10)
            · kernel_rfl
            · simp only [List.getElem?_toArray, List.getElem?_cons_succ, List.getElem?_cons_zero]
              rfl
            intro K hK
            go_simp
            skip
            refine hK.out _ _ (Or.inl (by rfl)) ?_
            clear hK K
            try simp only [Act.put, List.setIfInBounds_toArray, List.set_cons_zero, List.set_cons_succ]
            refine Till.done (by kernel_rfl) ?_ _
            clear q0 f0 q1 f1 d9
            obtain ⟨wy, hwy⟩ : ∃ x, x = ((wz.setCell ⟨E, 0, none⟩ (.int .i64 Y0.1)).setCell ⟨E, 1, none⟩ (.slice ar_1 Y0.2.length nr_1)) := ⟨_, rfl⟩
            rw [← hwy] at T9 R9 O9 F9 ⊢
            clear hwy
            go_wp2_with fail
            go_meet
            case rel => exact ⟨E, ar_1, nr_1, F_r, _, rfl, rfl, rfl, T9.out, O9.out, F9.out, HEl.out, R9.out⟩
          · intro K0 hK
            go_simp
            have hb : Below x2.heap.size x2 (x2.alloc (.cells #[.int .i64 0, .slice none 0 0] 26)) := (Below.refl _ _).alloc (Nat.le_refl _) _
            have HE0 := Lib.hid (heap_alloc_new x2 (.cells #[.int .i64 0, .slice none 0 0] 26))
            have HEl := Lib.hid HR.out.size
            replace HO_z0 := Lib.hid (tySpentList.onext HO_z0.out hb)
            replace HO_z1 := Lib.hid (tySpentList.onext HO_z1.out hb)
            replace HR := Lib.hid (HR.out.trans (hb.mono HR.out.size))
            clear hb d0
            have d0 := HSr.out _ HR.out
            refine hK.out _ _ (Or.inr d0) ?_
            clear hK K0
            try simp only [Act.put, List.setIfInBounds_toArray, List.set_cons_zero, List.set_cons_succ]
            obtain ⟨x5, hwa⟩ : ∃ x, x = x2.alloc (.cells #[.int .i64 0, .slice none 0 0] 26) := ⟨_, rfl⟩
            obtain ⟨E, hE⟩ : ∃ x, x = x2.heap.size := ⟨_, rfl⟩
            rw [← hwa] at HE0 HR d0 HO_z0 HO_z1 ⊢
            rw [← hE] at HE0 HEl ⊢
            have HE := HE0
            clear hwa hE HE0
            apply Till.one (i := 4)
            · kernel_rfl
            · simp only [List.getElem?_toArray, List.getElem?_cons_succ, List.getElem?_cons_zero]
              rfl
            intro K hK
            go_simp
            refine (impl_mrg_t (tySpentList.ord HO_z0.out) (Nat.le_refl _) (tySpentList.ord HO_z1.out) (Nat.le_refl _) B0t.out).mono ?_
            rintro e' x6 ⟨c_r, F_r, he, hO_r, hF_r, hb⟩
            replace hO_r : tySpentList.own F_r x6 c_r ((s0.1, mgL s0.1 s1.1 s0.2 s1.2)) := hO_r
            rw [← HY0.out] at hO_r
            rw [← HY1.out] at he
            subst he
            obtain ⟨ar_1, nr_1, _, rfl, _⟩ := own_SpentList hO_r
            have HFr : Hid (∀ b, F_r b → (w20_.heap.size ≤ b ∧ b < x6.heap.size) ∧ b ≠ E) := Lib.hid (fun b h => ⟨⟨Nat.le_trans HR.out.size (hF_r b h).1, (hF_r b h).2⟩, by have := (hF_r b h).1; have := lt_of_block HE.out; omega⟩)
            replace HO_z0 := Lib.hid (tySpentList.onext HO_z0.out hb)
            replace HO_z1 := Lib.hid (tySpentList.onext HO_z1.out hb)
            replace HE := Lib.hid ((hb.block _ (lt_of_block HE.out)).trans HE.out)
            replace HR := Lib.hid (HR.out.trans (hb.mono HR.out.size))
            clear hb d0
            have d0 := HSr.out _ HR.out
            have HOr := Lib.hid hO_r
            clear hO_r hF_r
            refine hK.out _ _ (Or.inr d0) ?_
            clear hK K
            try simp only [Act.put, List.setIfInBounds_toArray, List.set_cons_zero, List.set_cons_succ]
            apply Till.take (i := 5) [5, 7, 10]
            · simp only [List.getElem?_toArray, List.getElem?_cons_succ, List.getElem?_cons_zero]
              rfl
            · kernel_rfl
            · kernel_rfl
            · kernel_rfl
            · kernel_rfl
            · exact fun _ _ _ h => h
            · first
                | exact Or.inr ⟨by rfl, rfl⟩
                | (refine Or.inl ⟨by rfl, fun wq hwq => ?_⟩
                   dsimp only at hwq
                   go_simp
                   first
                     | done
                     | rfl)
            · exact d0
            simp only [Act.put, List.setIfInBounds_toArray, List.set_cons_zero, List.set_cons_succ]
            apply Till.take (i := 6) [6, 9, 10]
            · simp only [List.getElem?_toArray, List.getElem?_cons_succ, List.getElem?_cons_zero]
              rfl
            · kernel_rfl
            · kernel_rfl
            · kernel_rfl
            · kernel_rfl
            · exact fun _ _ _ h => h
            · first
                | exact Or.inr ⟨by rfl, rfl⟩
                | (refine Or.inl ⟨by rfl, fun wq hwq => ?_⟩
                   dsimp only at hwq
                   go_simp
                   first
                     | done
                     | rfl)
            · exact d0
            simp only [Act.put, List.setIfInBounds_toArray, List.set_cons_zero, List.set_cons_succ]
            apply Till.take (i := 7) [7, 10]
            · simp only [List.getElem?_toArray, List.getElem?_cons_succ, List.getElem?_cons_zero]
              rfl
            · kernel_rfl
            · kernel_rfl
            · kernel_rfl
            · kernel_rfl
            · exact fun _ _ _ h => h
            · first
                | exact Or.inr ⟨by rfl, rfl⟩
                | (refine Or.inl ⟨by rfl, fun wq hwq => ?_⟩
                   dsimp only at hwq
                   go_simp
                   first
                     | done
                     | rfl)
            · exact d0
            simp only [Act.put, List.setIfInBounds_toArray, List.set_cons_zero, List.set_cons_succ]
            obtain ⟨wz, hwz⟩ : ∃ x, x = x6 := ⟨_, rfl⟩
            rw [← hwz] at HE HR HOr HFr d0 ⊢
            clear hwz
            have q0 := (blk_cell HE.out 0).trans (cell2_0 _ _)
            have f0 := blk_free HE.out 0
            have q1 := (blk_cell HE.out 1).trans (cell2_1 _ _)
            have f1 := blk_free HE.out 1
            have s0t : (wz.setCell ⟨E, 0, none⟩ (.int .i64 Y0.1)).heap[E]? = some (.cells #[.int .i64 Y0.1, .slice none 0 0] 26 (0, 0)) := blk_set HE.out 0 (.int .i64 Y0.1)
            have s1t : ((wz.setCell ⟨E, 0, none⟩ (.int .i64 Y0.1)).setCell ⟨E, 1, none⟩ (.slice ar_1 Y0.2.length nr_1)).heap[E]? = some (.cells #[.int .i64 Y0.1, .slice ar_1 Y0.2.length nr_1] 26 (0, 0)) := blk_set s0t 1 (.slice ar_1 Y0.2.length nr_1)
            have t3 : wz.grownBy ((wz.setCell ⟨E, 0, none⟩ (.int .i64 Y0.1)).setCell ⟨E, 1, none⟩ (.slice ar_1 Y0.2.length nr_1)) (some E) := grown_trans (grown_set _ _ _ _) (grown_set _ _ _ _)
            have R9 := Lib.hid (HR.out.grown t3 HR.out.size (fun k hk => by injection hk with hk; have := HEl.out; omega))
            have O9 := Lib.hid (tySpentList.okept (G := fun b => b = E) HOr.out (KeptF.of_grown t3 (fun b h => by injection h with h; exact h.symm)) (fun b hb h => (HFr.out b hb).2 h))
            have F9 : Hid (∀ b, F_r b → (w20_.heap.size ≤ b ∧ b < ((wz.setCell ⟨E, 0, none⟩ (.int .i64 Y0.1)).setCell ⟨E, 1, none⟩ (.slice ar_1 Y0.2.length nr_1)).heap.size) ∧ b ≠ E) := Lib.hid (fun b h => ⟨⟨(HFr.out b h).1.1, Nat.lt_of_lt_of_le (HFr.out b h).1.2 t3.size⟩, (HFr.out b h).2⟩)
            have d9 := HSr.out _ R9.out
            have T9 := Lib.hid s1t
            clear t3 s0t s1t
            apply Till.one (i := 9)
            · kernel_rfl
            · simp only [List.getElem?_toArray, List.getElem?_cons_succ, List.getElem?_cons_zero]
              rfl
            intro K hK
            go_simp
            skip
            refine hK.out _ _ (Or.inr d9) ?_
            clear hK K
            try simp only [Act.put, List.setIfInBounds_toArray, List.set_cons_zero, List.set_cons_succ]
            apply Till.one (i := 10)
            · kernel_rfl
            · simp only [List.getElem?_toArray, List.getElem?_cons_succ, List.getElem?_cons_zero]
              rfl
            intro K hK
            go_simp
            skip
            refine hK.out _ _ (Or.inl (by rfl)) ?_
            clear hK K
            try simp only [Act.put, List.setIfInBounds_toArray, List.set_cons_zero, List.set_cons_succ]
            refine Till.done (by kernel_rfl) ?_ _
            clear q0 f0 q1 f1 d9
            obtain ⟨wy, hwy⟩ : ∃ x, x = ((wz.setCell ⟨E, 0, none⟩ (.int .i64 Y0.1)).setCell ⟨E, 1, none⟩ (.slice ar_1 Y0.2.length nr_1)) := ⟨_, rfl⟩
            rw [← hwy] at T9 R9 O9 F9 ⊢
            clear hwy
            go_wp2_with fail
            go_meet
            case rel => exact ⟨E, ar_1, nr_1, F_r, _, rfl, rfl, rfl, T9.out, O9.out, F9.out, HEl.out, R9.out⟩
        · intro K0 hK
          go_simp
          have hb : Below x1.heap.size x1 (x1.alloc (.cells #[.int .i64 0, .slice none 0 0] 26)) := (Below.refl _ _).alloc (Nat.le_refl _) _
          have HE0 := Lib.hid (heap_alloc_new x1 (.cells #[.int .i64 0, .slice none 0 0] 26))
          have HEl := Lib.hid HR.out.size
          replace HO_z0 := Lib.hid (tySpentList.onext HO_z0.out hb)
          replace HR := Lib.hid (HR.out.trans (hb.mono HR.out.size))
          clear hb d0
          have d0 := HSr.out _ HR.out
          refine hK.out _ _ (Or.inr d0) ?_
          clear hK K0
          try simp only [Act.put, List.setIfInBounds_toArray, List.set_cons_zero, List.set_cons_succ]
          obtain ⟨x7, hwa⟩ : ∃ x, x = x1.alloc (.cells #[.int .i64 0, .slice none 0 0] 26) := ⟨_, rfl⟩
          obtain ⟨E, hE⟩ : ∃ x, x = x1.heap.size := ⟨_, rfl⟩
          rw [← hwa] at HE0 HR d0 HO_z0 ⊢
          rw [← hE] at HE0 HEl ⊢
          have HE := HE0
          clear hwa hE HE0
          apply Till.one (i := 3)
          · kernel_rfl
          · simp only [List.getElem?_toArray, List.getElem?_cons_succ, List.getElem?_cons_zero]
            rfl
          intro K hK
          go_simp
          refine (toSpentList_any (tySpentList.behind A1.out (HR.out.mono HB.out.size)) (Nat.le_trans HB.out.size HR.out.size) (Nat.le_trans B1t.out (by decide))).mono ?_
          rintro e' x8 ⟨c_z1, he, hO_z1, hb⟩
          subst he
          obtain ⟨az1_1, nz1_1, _, rfl, _⟩ := own_SpentList hO_z1
          replace HO_z0 := Lib.hid (tySpentList.onext HO_z0.out hb)
          replace HE := Lib.hid ((hb.block _ (lt_of_block HE.out)).trans HE.out)
          replace HR := Lib.hid (HR.out.trans (hb.mono HR.out.size))
          clear hb d0
          have d0 := HSr.out _ HR.out
          have HO_z1 := Lib.hid hO_z1
          clear hO_z1
          refine hK.out _ _ (Or.inr d0) ?_
          clear hK K
          try simp only [Act.put, List.setIfInBounds_toArray, List.set_cons_zero, List.set_cons_succ]
          apply Till.one (i := 4)
          · kernel_rfl
          · simp only [List.getElem?_toArray, List.getElem?_cons_succ, List.getElem?_cons_zero]
            rfl
          intro K hK
          go_simp
          refine (impl_mrg_t (tySpentList.ord HO_z0.out) (Nat.le_refl _) (tySpentList.ord HO_z1.out) (Nat.le_refl _) B0t.out).mono ?_
          rintro e' x9 ⟨c_r, F_r, he, hO_r, hF_r, hb⟩
          replace hO_r : tySpentList.own F_r x9 c_r ((s0.1, mgL s0.1 s1.1 s0.2 s1.2)) := hO_r
          rw [← HY0.out] at hO_r
          rw [← HY1.out] at he
          subst he
          obtain ⟨ar_1, nr_1, _, rfl, _⟩ := own_SpentList hO_r
          have HFr : Hid (∀ b, F_r b → (w20_.heap.size ≤ b ∧ b < x9.heap.size) ∧ b ≠ E) := Lib.hid (fun b h => ⟨⟨Nat.le_trans HR.out.size (hF_r b h).1, (hF_r b h).2⟩, by have := (hF_r b h).1; have := lt_of_block HE.out; omega⟩)
          replace HO_z0 := Lib.hid (tySpentList.onext HO_z0.out hb)
          replace HO_z1 := Lib.hid (tySpentList.onext HO_z1.out hb)
          replace HE := Lib.hid ((hb.block _ (lt_of_block HE.out)).trans HE.out)
          replace HR := Lib.hid (HR.out.trans (hb.mono HR.out.size))
          clear hb d0
          have d0 := HSr.out _ HR.out
          have HOr := Lib.hid hO_r
          clear hO_r hF_r
          refine hK.out _ _ (Or.inr d0) ?_
          clear hK K
          try simp only [Act.put, List.setIfInBounds_toArray, List.set_cons_zero, List.set_cons_succ]
          apply Till.take (i := 5) [5, 7, 10]
          · simp only [List.getElem?_toArray, List.getElem?_cons_succ, List.getElem?_cons_zero]
            rfl
          · kernel_rfl
          · kernel_rfl
          · kernel_rfl
          · kernel_rfl
          · exact fun _ _ _ h => h
          · first
              | exact Or.inr ⟨by rfl, rfl⟩
              | (refine Or.inl ⟨by rfl, fun wq hwq => ?_⟩
                 dsimp only at hwq
                 go_simp
                 first
                   | done
                   | rfl)
          · exact d0
          simp only [Act.put, List.setIfInBounds_toArray, List.set_cons_zero, List.set_cons_succ]
          apply Till.take (i := 6) [6, 9, 10]
          · simp only [List.getElem?_toArray, List.getElem?_cons_succ, List.getElem?_cons_zero]
            rfl
          · kernel_rfl
          · kernel_rfl
          · kernel_rfl
          · kernel_rfl
          · exact fun _ _ _ h => h
          · first
              | exact Or.inr ⟨by rfl, rfl⟩
              | (refine Or.inl ⟨by rfl, fun wq hwq => ?_⟩
                 dsimp only at hwq
                 go_simp
                 first
                   | done
                   | rfl)
          · exact d0
          simp only [Act.put, List.setIfInBounds_toArray, List.set_cons_zero, List.set_cons_succ]
          apply Till.take (i := 7) [7, 10]
          · simp only [List.getElem?_toArray, List.getElem?_cons_succ, List.getElem?_cons_zero]
            rfl
          · kernel_rfl
          · kernel_rfl
          · kernel_rfl
          · kernel_rfl
          · exact fun _ _ _ h => h
          · first
              | exact Or.inr ⟨by rfl, rfl⟩
              | (refine Or.inl ⟨by rfl, fun wq hwq => ?_⟩
                 dsimp only at hwq
                 go_simp
                 first
                   | done
                   | rfl)
          · exact d0
          simp only [Act.put, List.setIfInBounds_toArray, List.set_cons_zero, List.set_cons_succ]
          obtain ⟨wz, hwz⟩ : ∃ x, x = x9 := ⟨_, rfl⟩
          rw [← hwz] at HE HR HOr HFr d0 ⊢
          clear hwz
          have q0 := (blk_cell HE.out 0).trans (cell2_0 _ _)
          have f0 := blk_free HE.out 0
          have q1 := (blk_cell HE.out 1).trans (cell2_1 _ _)
          have f1 := blk_free HE.out 1
          have s0t : (wz.setCell ⟨E, 0, none⟩ (.int .i64 Y0.1)).heap[E]? = some (.cells #[.int .i64 Y0.1, .slice none 0 0] 26 (0, 0)) := blk_set HE.out 0 (.int .i64 Y0.1)
          have s1t : ((wz.setCell ⟨E, 0, none⟩ (.int .i64 Y0.1)).setCell ⟨E, 1, none⟩ (.slice ar_1 Y0.2.length nr_1)).heap[E]? = some (.cells #[.int .i64 Y0.1, .slice ar_1 Y0.2.length nr_1] 26 (0, 0)) := blk_set s0t 1 (.slice ar_1 Y0.2.length nr_1)
          have t3 : wz.grownBy ((wz.setCell ⟨E, 0, none⟩ (.int .i64 Y0.1)).setCell ⟨E, 1, none⟩ (.slice ar_1 Y0.2.length nr_1)) (some E) := grown_trans (grown_set _ _ _ _) (grown_set _ _ _ _)
          have R9 := Lib.hid (HR.out.grown t3 HR.out.size (fun k hk => by injection hk with hk; have := HEl.out; omega))
          have O9 := Lib.hid (tySpentList.okept (G := fun b => b = E) HOr.out (KeptF.of_grown t3 (fun b h => by injection h with h; exact h.symm)) (fun b hb h => (HFr.out b hb).2 h))
          have F9 : Hid (∀ b, F_r b → (w20_.heap.size ≤ b ∧ b < ((wz.setCell ⟨E, 0, none⟩ (.int .i64 Y0.1)).setCell ⟨E, 1, none⟩ (.slice ar_1 Y0.2.length nr_1)).heap.size) ∧ b ≠ E) := Lib.hid (fun b h => ⟨⟨(HFr.out b h).1.1, Nat.lt_of_lt_of_le (HFr.out b h).1.2 t3.size⟩, (HFr.out b h).2⟩)
          have d9 := HSr.out _ R9.out
          have T9 := Lib.hid s1t
          clear t3 s0t s1t
          apply Till.one (i := 9)
          · kernel_rfl
          · simp only [List.getElem?_toArray, List.getElem?_cons_succ, List.getElem?_cons_zero]
            rfl
          intro K hK
          go_simp
          skip
          refine hK.out _ _ (Or.inr d9) ?_
          clear hK K
          try simp only [Act.put, List.setIfInBounds_toArray, List.set_cons_zero, List.set_cons_succ]
          apply Till.one (i := 10)
          · kernel_rfl
          · simp only [List.getElem?_toArray, List.getElem?_cons_succ, List.getElem?_cons_zero]
            rfl
          intro K hK
          go_simp
          skip
          refine hK.out _ _ (Or.inl (by rfl)) ?_
          clear hK K
          try simp only [Act.put, List.setIfInBounds_toArray, List.set_cons_zero, List.set_cons_succ]
          refine Till.done (by kernel_rfl) ?_ _
          clear q0 f0 q1 f1 d9
          obtain ⟨wy, hwy⟩ : ∃ x, x = ((wz.setCell ⟨E, 0, none⟩ (.int .i64 Y0.1)).setCell ⟨E, 1, none⟩ (.slice ar_1 Y0.2.length nr_1)) := ⟨_, rfl⟩
          rw [← hwy] at T9 R9 O9 F9 ⊢
          clear hwy
          go_wp2_with fail
          go_meet
          case rel => exact ⟨E, ar_1, nr_1, F_r, _, rfl, rfl, rfl, T9.out, O9.out, F9.out, HEl.out, R9.out⟩
      · intro K0 hK
        go_simp
        have hb : Below wd.heap.size wd (wd.alloc (.cells #[.int .i64 0, .slice none 0 0] 26)) := (Below.refl _ _).alloc (Nat.le_refl _) _
        have HE0 := Lib.hid (heap_alloc_new wd (.cells #[.int .i64 0, .slice none 0 0] 26))
        have HEl := Lib.hid HR.out.size
        replace HR := Lib.hid (HR.out.trans (hb.mono HR.out.size))
        clear hb d0
        have d0 := HSr.out _ HR.out
        refine hK.out _ _ (Or.inr d0) ?_
        clear hK K0
        try simp only [Act.put, List.setIfInBounds_toArray, List.set_cons_zero, List.set_cons_succ]
        obtain ⟨x10, hwa⟩ : ∃ x, x = wd.alloc (.cells #[.int .i64 0, .slice none 0 0] 26) := ⟨_, rfl⟩
        obtain ⟨E, hE⟩ : ∃ x, x = wd.heap.size := ⟨_, rfl⟩
        rw [← hwa] at HE0 HR d0 ⊢
        rw [← hE] at HE0 HEl ⊢
        have HE := HE0
        clear hwa hE HE0
        apply Till.one (i := 1)
        · kernel_rfl
        · simp only [List.getElem?_toArray, List.getElem?_cons_succ, List.getElem?_cons_zero]
          rfl
        intro K hK
        go_simp
        refine (toSpentList_any (tySpentList.behind A0.out (HR.out.mono HB.out.size)) (Nat.le_trans HB.out.size HR.out.size) (Nat.le_trans B0t.out (by decide))).mono ?_
        rintro e' x11 ⟨c_z0, he, hO_z0, hb⟩
        subst he
        obtain ⟨az0_1, nz0_1, _, rfl, _⟩ := own_SpentList hO_z0
        replace HE := Lib.hid ((hb.block _ (lt_of_block HE.out)).trans HE.out)
        replace HR := Lib.hid (HR.out.trans (hb.mono HR.out.size))
        clear hb d0
        have d0 := HSr.out _ HR.out
        have HO_z0 := Lib.hid hO_z0
        clear hO_z0
        refine hK.out _ _ (Or.inr d0) ?_
        clear hK K
        try simp only [Act.put, List.setIfInBounds_toArray, List.set_cons_zero, List.set_cons_succ]
        apply Till.one (i := 3)
        · kernel_rfl
        · simp only [List.getElem?_toArray, List.getElem?_cons_succ, List.getElem?_cons_zero]
          rfl
        intro K hK
        go_simp
        refine (toSpentList_any (tySpentList.behind A1.out (HR.out.mono HB.out.size)) (Nat.le_trans HB.out.size HR.out.size) (Nat.le_trans B1t.out (by decide))).mono ?_
        rintro e' x12 ⟨c_z1, he, hO_z1, hb⟩
        subst he
        obtain ⟨az1_1, nz1_1, _, rfl, _⟩ := own_SpentList hO_z1
        replace HO_z0 := Lib.hid (tySpentList.onext HO_z0.out hb)
        replace HE := Lib.hid ((hb.block _ (lt_of_block HE.out)).trans HE.out)
        replace HR := Lib.hid (HR.out.trans (hb.mono HR.out.size))
        clear hb d0
        have d0 := HSr.out _ HR.out
        have HO_z1 := Lib.hid hO_z1
        clear hO_z1
        refine hK.out _ _ (Or.inr d0) ?_
        clear hK K
        try simp only [Act.put, List.setIfInBounds_toArray, List.set_cons_zero, List.set_cons_succ]
        apply Till.one (i := 4)
        · kernel_rfl
        · simp only [List.getElem?_toArray, List.getElem?_cons_succ, List.getElem?_cons_zero]
          rfl
        intro K hK
        go_simp
        refine (impl_mrg_t (tySpentList.ord HO_z0.out) (Nat.le_refl _) (tySpentList.ord HO_z1.out) (Nat.le_refl _) B0t.out).mono ?_
        rintro e' x13 ⟨c_r, F_r, he, hO_r, hF_r, hb⟩
        replace hO_r : tySpentList.own F_r x13 c_r ((s0.1, mgL s0.1 s1.1 s0.2 s1.2)) := hO_r
        rw [← HY0.out] at hO_r
        rw [← HY1.out] at he
        subst he
        obtain ⟨ar_1, nr_1, _, rfl, _⟩ := own_SpentList hO_r
        have HFr : Hid (∀ b, F_r b → (w20_.heap.size ≤ b ∧ b < x13.heap.size) ∧ b ≠ E) := Lib.hid (fun b h => ⟨⟨Nat.le_trans HR.out.size (hF_r b h).1, (hF_r b h).2⟩, by have := (hF_r b h).1; have := lt_of_block HE.out; omega⟩)
        replace HO_z0 := Lib.hid (tySpentList.onext HO_z0.out hb)
        replace HO_z1 := Lib.hid (tySpentList.onext HO_z1.out hb)
        replace HE := Lib.hid ((hb.block _ (lt_of_block HE.out)).trans HE.out)
        replace HR := Lib.hid (HR.out.trans (hb.mono HR.out.size))
        clear hb d0
        have d0 := HSr.out _ HR.out
        have HOr := Lib.hid hO_r
        clear hO_r hF_r
        refine hK.out _ _ (Or.inr d0) ?_
        clear hK K
        try simp only [Act.put, List.setIfInBounds_toArray, List.set_cons_zero, List.set_cons_succ]
        apply Till.take (i := 5) [5, 7, 10]
        · simp only [List.getElem?_toArray, List.getElem?_cons_succ, List.getElem?_cons_zero]
          rfl
        · kernel_rfl
        · kernel_rfl
        · kernel_rfl
        · kernel_rfl
        · exact fun _ _ _ h => h
        · first
            | exact Or.inr ⟨by rfl, rfl⟩
            | (refine Or.inl ⟨by rfl, fun wq hwq => ?_⟩
               dsimp only at hwq
               go_simp
               first
                 | done
                 | rfl)
        · exact d0
        simp only [Act.put, List.setIfInBounds_toArray, List.set_cons_zero, List.set_cons_succ]
        apply Till.take (i := 6) [6, 9, 10]
        · simp only [List.getElem?_toArray, List.getElem?_cons_succ, List.getElem?_cons_zero]
          rfl
        · kernel_rfl
        · kernel_rfl
        · kernel_rfl
        · kernel_rfl
        · exact fun _ _ _ h => h
        · first
            | exact Or.inr ⟨by rfl, rfl⟩
            | (refine Or.inl ⟨by rfl, fun wq hwq => ?_⟩
               dsimp only at hwq
               go_simp
               first
                 | done
                 | rfl)
        · exact d0
        simp only [Act.put, List.setIfInBounds_toArray, List.set_cons_zero, List.set_cons_succ]
        apply Till.take (i := 7) [7, 10]
        · simp only [List.getElem?_toArray, List.getElem?_cons_succ, List.getElem?_cons_zero]
          rfl
        · kernel_rfl
        · kernel_rfl
        · kernel_rfl
        · kernel_rfl
        · exact fun _ _ _ h => h
        · first
            | exact Or.inr ⟨by rfl, rfl⟩
            | (refine Or.inl ⟨by rfl, fun wq hwq => ?_⟩
               dsimp only at hwq
               go_simp
               first
                 | done
                 | rfl)
        · exact d0
        simp only [Act.put, List.setIfInBounds_toArray, List.set_cons_zero, List.set_cons_succ]
        obtain ⟨wz, hwz⟩ : ∃ x, x = x13 := ⟨_, rfl⟩
        rw [← hwz] at HE HR HOr HFr d0 ⊢
        clear hwz
        have q0 := (blk_cell HE.out 0).trans (cell2_0 _ _)
        have f0 := blk_free HE.out 0
        have q1 := (blk_cell HE.out 1).trans (cell2_1 _ _)
        have f1 := blk_free HE.out 1
        have s0t : (wz.setCell ⟨E, 0, none⟩ (.int .i64 Y0.1)).heap[E]? = some (.cells #[.int .i64 Y0.1, .slice none 0 0] 26 (0, 0)) := blk_set HE.out 0 (.int .i64 Y0.1)
        have s1t : ((wz.setCell ⟨E, 0, none⟩ (.int .i64 Y0.1)).setCell ⟨E, 1, none⟩ (.slice ar_1 Y0.2.length nr_1)).heap[E]? = some (.cells #[.int .i64 Y0.1, .slice ar_1 Y0.2.length nr_1] 26 (0, 0)) := blk_set s0t 1 (.slice ar_1 Y0.2.length nr_1)
        have t3 : wz.grownBy ((wz.setCell ⟨E, 0, none⟩ (.int .i64 Y0.1)).setCell ⟨E, 1, none⟩ (.slice ar_1 Y0.2.length nr_1)) (some E) := grown_trans (grown_set _ _ _ _) (grown_set _ _ _ _)
        have R9 := Lib.hid (HR.out.grown t3 HR.out.size (fun k hk => by injection hk with hk; have := HEl.out; omega))
        have O9 := Lib.hid (tySpentList.okept (G := fun b => b = E) HOr.out (KeptF.of_grown t3 (fun b h => by injection h with h; exact h.symm)) (fun b hb h => (HFr.out b hb).2 h))
        have F9 : Hid (∀ b, F_r b → (w20_.heap.size ≤ b ∧ b < ((wz.setCell ⟨E, 0, none⟩ (.int .i64 Y0.1)).setCell ⟨E, 1, none⟩ (.slice ar_1 Y0.2.length nr_1)).heap.size) ∧ b ≠ E) := Lib.hid (fun b h => ⟨⟨(HFr.out b h).1.1, Nat.lt_of_lt_of_le (HFr.out b h).1.2 t3.size⟩, (HFr.out b h).2⟩)
        have d9 := HSr.out _ R9.out
        have T9 := Lib.hid s1t
        clear t3 s0t s1t
        apply Till.one (i := 9)
        · kernel_rfl
        · simp only [List.getElem?_toArray, List.getElem?_cons_succ, List.getElem?_cons_zero]
          rfl
        intro K hK
        go_simp
        skip
        refine hK.out _ _ (Or.inr d9) ?_
        clear hK K
        try simp only [Act.put, List.setIfInBounds_toArray, List.set_cons_zero, List.set_cons_succ]
        apply Till.one (i := 10)
        · kernel_rfl
        · simp only [List.getElem?_toArray, List.getElem?_cons_succ, List.getElem?_cons_zero]
          rfl
        intro K hK
        go_simp
        skip
        refine hK.out _ _ (Or.inl (by rfl)) ?_
        clear hK K
        try simp only [Act.put, List.setIfInBounds_toArray, List.set_cons_zero, List.set_cons_succ]
        refine Till.done (by kernel_rfl) ?_ _
        clear q0 f0 q1 f1 d9
        obtain ⟨wy, hwy⟩ : ∃ x, x = ((wz.setCell ⟨E, 0, none⟩ (.int .i64 Y0.1)).setCell ⟨E, 1, none⟩ (.slice ar_1 Y0.2.length nr_1)) := ⟨_, rfl⟩
        rw [← hwy] at T9 R9 O9 F9 ⊢
        clear hwy
        go_wp2_with fail
        go_meet
        case rel => exact ⟨E, ar_1, nr_1, F_r, _, rfl, rfl, rfl, T9.out, O9.out, F9.out, HEl.out, R9.out⟩
    case rest =>
      obtain ⟨Q_h0, ah0_1, nh0_1, F_h0, w21_, hww, rfl, rfl, hK, hO_h0, hF2_h0, hEl, hb⟩ := hcut
      subst hww
      have hF_h0 := fun b h => (hF2_h0 b h).1
      have D_h0 : Hid (∀ b, F_h0 b → w.heap.size ≤ b) := Lib.hid (fun b h => Nat.le_trans HB.out.size (hF_h0 b h).1)
      replace A0 := Lib.hid (tySpentList.behind A0.out (hb.mono HB.out.size))
      replace A1 := Lib.hid (tySpentList.behind A1.out (hb.mono HB.out.size))
      replace O_w0 := Lib.hid (tySpentList.onext O_w0.out hb)
      replace E_w0 : Hid (∀ b, F_w0 b → b < w21_.heap.size) := Lib.hid (fun b h => Nat.lt_of_lt_of_le (E_w0.out b h) hb.size)
      replace O_g0 := Lib.hid (tySpentList.onext O_g0.out hb)
      replace E_g0 : Hid (∀ b, F_g0 b → b < w21_.heap.size) := Lib.hid (fun b h => Nat.lt_of_lt_of_le (E_g0.out b h) hb.size)
      replace K_p0 := Lib.hid ((hb.block _ (lt_of_block K_p0.out)).trans K_p0.out)
      replace K_p1 := Lib.hid ((hb.block _ (lt_of_block K_p1.out)).trans K_p1.out)
      replace K_w0 := Lib.hid ((hb.block _ (lt_of_block K_w0.out)).trans K_w0.out)
      replace K_g0 := Lib.hid ((hb.block _ (lt_of_block K_g0.out)).trans K_g0.out)
      replace HB := Lib.hid (HB.out.trans (hb.mono HB.out.size))
      clear hb
      have O_h0 := Lib.hid hO_h0
      have E_h0 : Hid (∀ b, F_h0 b → b < w21_.heap.size) := Lib.hid (fun b h => (hF_h0 b h).2)
      have K_h0 := Lib.hid hK
      clear hO_h0 hF_h0 hF2_h0 hK hEl
      clear A0
      clear K_p0
      clear N_p0_g0
      clear A1
      clear K_p1
      clear N_p1_g0
      -- ('eq', 'SpentList', ('own', 'h0'), ('own', 'w0'))
      have k_w0_0 := blk_cell K_w0.out 0
      rw [cell2_0] at k_w0_0
      have k_w0_1 := blk_cell K_w0.out 1
      rw [cell2_1] at k_w0_1
      have k_g0_0 := blk_cell K_g0.out 0
      rw [cell2_0] at k_g0_0
      have k_g0_1 := blk_cell K_g0.out 1
      rw [cell2_1] at k_g0_1
      have k_h0_0 := blk_cell K_h0.out 0
      rw [cell2_0] at k_h0_0
      have k_h0_1 := blk_cell K_h0.out 1
      rw [cell2_1] at k_h0_1
      go_wp2_with fail
      clear k_w0_0 k_w0_1 k_g0_0 k_g0_1 k_h0_0 k_h0_1
      refine (eqSpentList_same (tySpentList.ord O_h0.out) (tySpentList.ord O_w0.out) (Nat.le_refl _) (Nat.le_refl _)).mono ?_
      rintro e w22_ ⟨he, hb⟩
      subst he
      replace O_w0 := Lib.hid (tySpentList.onext O_w0.out hb)
      replace E_w0 : Hid (∀ b, F_w0 b → b < w22_.heap.size) := Lib.hid (fun b h => Nat.lt_of_lt_of_le (E_w0.out b h) hb.size)
      replace O_g0 := Lib.hid (tySpentList.onext O_g0.out hb)
      replace E_g0 : Hid (∀ b, F_g0 b → b < w22_.heap.size) := Lib.hid (fun b h => Nat.lt_of_lt_of_le (E_g0.out b h) hb.size)
      replace O_h0 := Lib.hid (tySpentList.onext O_h0.out hb)
      replace E_h0 : Hid (∀ b, F_h0 b → b < w22_.heap.size) := Lib.hid (fun b h => Nat.lt_of_lt_of_le (E_h0.out b h) hb.size)
      replace K_w0 := Lib.hid ((hb.block _ (lt_of_block K_w0.out)).trans K_w0.out)
      replace K_g0 := Lib.hid ((hb.block _ (lt_of_block K_g0.out)).trans K_g0.out)
      replace K_h0 := Lib.hid ((hb.block _ (lt_of_block K_h0.out)).trans K_h0.out)
      replace HB := Lib.hid (HB.out.trans (hb.mono HB.out.size))
      clear hb
      clear O_w0 E_w0 D_w0
      clear X_w0_g0
      clear K_w0
      clear N_w0_g0
      clear O_h0 E_h0 D_h0
      clear K_h0
      -- ('set', 'q', '1')
      -- ('held', 'q', 'SpentList', 'g0', 'q')
      have k_g0_0 := blk_cell K_g0.out 0
      rw [cell2_0] at k_g0_0
      have k_g0_1 := blk_cell K_g0.out 1
      rw [cell2_1] at k_g0_1
      go_wp2_with fail
      clear k_g0_0 k_g0_1
      refine (heldSpentList_any (x := Y0) (k0 := 1) (tySpentList.ord O_g0.out) (Nat.le_refl _) (by omega) (by omega)).mono ?_
      rintro e w23_ ⟨he, hb⟩
      rw [← G14.out] at he
      subst he
      replace O_g0 := Lib.hid (tySpentList.onext O_g0.out hb)
      replace E_g0 : Hid (∀ b, F_g0 b → b < w23_.heap.size) := Lib.hid (fun b h => Nat.lt_of_lt_of_le (E_g0.out b h) hb.size)
      replace K_g0 := Lib.hid ((hb.block _ (lt_of_block K_g0.out)).trans K_g0.out)
      replace HB := Lib.hid (HB.out.trans (hb.mono HB.out.size))
      clear hb
      have dd20 : decide (K14 < 0) = false := by simp; omega
      clear O_g0 E_g0 D_g0
      clear N_g0_g0
      clear K_g0
      go_wp2_with fail
      go_ret
      exact ⟨rfl, HB.out⟩
      
end Go.Proofs.Ytdlbpeippmibcaa
