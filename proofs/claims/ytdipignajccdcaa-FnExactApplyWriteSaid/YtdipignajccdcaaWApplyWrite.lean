/- FnExactApplyWrite: the walk. No conditions. -/
import Derived.Test.YtdipignajccdcaaWr8
import Derived.Test.YtdipignajccdcaaBa6
import Derived.Test.YtdipignajccdcaaDbH
import Derived.Test.YtdipignajccdcaaBa5
import Derived.Deep.RegionHeld3
import Derived.Deep.DeepCutAuto
import Derived.Test.YtdipignajccdcaaHeldL
namespace Go.Proofs.Ytdipignajccdcaa
open Go Go.RowKit
set_option linter.unusedVariables false

set_option maxHeartbeats 4000000 in
set_option maxRecDepth 20000 in
theorem fnExactApplyWrite_walk (a0 : Option Addr) (len0 cap0 : Nat) (z0 : List (List Int)) (a1 : Option Addr) (len1 cap1 : Nat) (z1 : List (List Int)) (w : World) (w0 : Rd2 w.heap.size .u8 w (.slice a0 len0 cap0) z0) (w1 : Rd2 w.heap.size .u8 w (.slice a1 len1 cap1) z1) :
    Calls Try.prog 4 #[.agg #[.slice a0 len0 cap0], .agg #[.slice a1 len1 cap1]] w fun e w' => e = .returned (.bool true) ∧ Below w.heap.size w w' := by
  obtain ⟨s0, A0, l0⟩ : ∃ s, Rd2 w.heap.size .u8 w (.slice a0 len0 cap0) s ∧ len0 = s.length := ⟨z0, w0, w0.len_eq⟩
  subst l0
  replace A0 := Lib.hid A0
  clear w0
  have m0 : s0.length ≤ 9223372036854775807 := by have := A0.out.len; unfold maxLen at this; omega
  obtain ⟨s1, A1, l1⟩ : ∃ s, Rd2 w.heap.size .u8 w (.slice a1 len1 cap1) s ∧ len1 = s.length := ⟨z1, w1, w1.len_eq⟩
  subst l1
  replace A1 := Lib.hid A1
  clear w1
  have m1 : s1.length ≤ 9223372036854775807 := by have := A1.out.len; unfold maxLen at this; omega
  by_cases b0z : (tot s0 : Int) ≤ (1048576 : Int)
  case neg =>
    have c0 := Lib.hid b0z
    go_enter Try.func4, Try.ntmps4
    have HB := Lib.hid (Below.refl w.heap.size w)
    have hb := (((Below.refl w.heap.size w).alloc (Nat.le_refl _) (.cells #[.slice a0 s0.length cap0] 37)).alloc (by simp) (.cells #[.slice a1 s1.length cap1] 37))
    have K_p0 := Lib.hid (blocks2 w (.cells #[.slice a0 s0.length cap0] 37) (.cells #[.slice a1 s1.length cap1] 37)).1
    have K_p1 := Lib.hid (blocks2 w (.cells #[.slice a0 s0.length cap0] 37) (.cells #[.slice a1 s1.length cap1] 37)).2
    have R_p0 := Lib.hid (lt_of_block K_p0.out)
    have R_p1 := Lib.hid (lt_of_block K_p1.out)
    replace A0 := Lib.hid (A0.out.behind hb)
    replace A1 := Lib.hid (A1.out.behind hb)
    replace HB := Lib.hid hb
    clear hb
    have k_p0 := blk_cell K_p0.out 0
    rw [one0] at k_p0
    have k_p1 := blk_cell K_p1.out 0
    rw [one0] at k_p1
    go_wp2_with fail
    clear k_p0 k_p1
    obtain ⟨w1_, hw⟩ : ∃ x, x = ((w.alloc (.cells #[.slice a0 s0.length cap0] 37)).alloc (.cells #[.slice a1 s1.length cap1] 37)) := ⟨_, rfl⟩
    rw [← hw] at HB A0 A1 K_p0 K_p1 R_p0 R_p1 ⊢
    clear hw
    refine (szDatabase_any A0.out (by omega) (by omega) HB.out.size).mono ?_
    rintro e w2_ ⟨he, hb⟩
    rw [if_neg (by have := c0.out; omega)] at he
    subst he
    replace A0 := Lib.hid (A0.out.behind (hb.mono HB.out.size))
    replace A1 := Lib.hid (A1.out.behind (hb.mono HB.out.size))
    replace K_p0 := Lib.hid ((hb.block (w.heap.size) (lt_of_block K_p0.out)).trans K_p0.out)
    replace K_p1 := Lib.hid ((hb.block (w.heap.size + 1) (lt_of_block K_p1.out)).trans K_p1.out)
    replace HB := Lib.hid (HB.out.trans (hb.mono HB.out.size))
    clear hb
    have k_p0 := blk_cell K_p0.out 0
    rw [one0] at k_p0
    have k_p1 := blk_cell K_p1.out 0
    rw [one0] at k_p1
    go_wp2_with fail
    clear k_p0 k_p1
    go_ret
    exact ⟨rfl, HB.out⟩
  have c0 := Lib.hid b0z
  obtain ⟨q0, hq0⟩ : ∃ q : Int, q = (1048576 : Int) - (tot s0 : Int) := ⟨_, rfl⟩
  have d0q : decide (q0 < 0) = false := by simp; omega
  have e0q : 0 ≤ q0 ∧ q0 ≤ 1048576 := by omega
  have b0t : tot s0 ≤ 1048576 := by omega
  have H0q := Lib.hid hq0
  clear hq0 b0z
  by_cases b1z : (tot s1 : Int) ≤ q0
  case neg =>
    have c1 := Lib.hid b1z
    go_enter Try.func4, Try.ntmps4
    have HB := Lib.hid (Below.refl w.heap.size w)
    have hb := (((Below.refl w.heap.size w).alloc (Nat.le_refl _) (.cells #[.slice a0 s0.length cap0] 37)).alloc (by simp) (.cells #[.slice a1 s1.length cap1] 37))
    have K_p0 := Lib.hid (blocks2 w (.cells #[.slice a0 s0.length cap0] 37) (.cells #[.slice a1 s1.length cap1] 37)).1
    have K_p1 := Lib.hid (blocks2 w (.cells #[.slice a0 s0.length cap0] 37) (.cells #[.slice a1 s1.length cap1] 37)).2
    have R_p0 := Lib.hid (lt_of_block K_p0.out)
    have R_p1 := Lib.hid (lt_of_block K_p1.out)
    replace A0 := Lib.hid (A0.out.behind hb)
    replace A1 := Lib.hid (A1.out.behind hb)
    replace HB := Lib.hid hb
    clear hb
    have k_p0 := blk_cell K_p0.out 0
    rw [one0] at k_p0
    have k_p1 := blk_cell K_p1.out 0
    rw [one0] at k_p1
    go_wp2_with fail
    clear k_p0 k_p1
    obtain ⟨w1_, hw⟩ : ∃ x, x = ((w.alloc (.cells #[.slice a0 s0.length cap0] 37)).alloc (.cells #[.slice a1 s1.length cap1] 37)) := ⟨_, rfl⟩
    rw [← hw] at HB A0 A1 K_p0 K_p1 R_p0 R_p1 ⊢
    clear hw
    refine (szDatabase_any A0.out (by omega) (by omega) HB.out.size).mono ?_
    rintro e w2_ ⟨he, hb⟩
    rw [if_pos (by have := c0.out; omega), ← H0q.out] at he
    subst he
    replace A0 := Lib.hid (A0.out.behind (hb.mono HB.out.size))
    replace A1 := Lib.hid (A1.out.behind (hb.mono HB.out.size))
    replace K_p0 := Lib.hid ((hb.block (w.heap.size) (lt_of_block K_p0.out)).trans K_p0.out)
    replace K_p1 := Lib.hid ((hb.block (w.heap.size + 1) (lt_of_block K_p1.out)).trans K_p1.out)
    replace HB := Lib.hid (HB.out.trans (hb.mono HB.out.size))
    clear hb
    have k_p0 := blk_cell K_p0.out 0
    rw [one0] at k_p0
    have k_p1 := blk_cell K_p1.out 0
    rw [one0] at k_p1
    go_wp2_with fail
    clear k_p0 k_p1
    refine (szDatabase_any A1.out (by omega) (by omega) HB.out.size).mono ?_
    rintro e w3_ ⟨he, hb⟩
    rw [if_neg (by have := c1.out; omega)] at he
    subst he
    replace A0 := Lib.hid (A0.out.behind (hb.mono HB.out.size))
    replace A1 := Lib.hid (A1.out.behind (hb.mono HB.out.size))
    replace K_p0 := Lib.hid ((hb.block (w.heap.size) (lt_of_block K_p0.out)).trans K_p0.out)
    replace K_p1 := Lib.hid ((hb.block (w.heap.size + 1) (lt_of_block K_p1.out)).trans K_p1.out)
    replace HB := Lib.hid (HB.out.trans (hb.mono HB.out.size))
    clear hb
    have k_p0 := blk_cell K_p0.out 0
    rw [one0] at k_p0
    have k_p1 := blk_cell K_p1.out 0
    rw [one0] at k_p1
    go_wp2_with fail
    clear k_p0 k_p1
    go_ret
    exact ⟨rfl, HB.out⟩
  have c1 := Lib.hid b1z
  obtain ⟨q1, hq1⟩ : ∃ q : Int, q = q0 - (tot s1 : Int) := ⟨_, rfl⟩
  have d1q : decide (q1 < 0) = false := by simp; omega
  have e1q : 0 ≤ q1 ∧ q1 ≤ 1048576 := by omega
  have b1t : tot s1 ≤ 1048576 := by omega
  have H1q := Lib.hid hq1
  clear hq1 b1z
  go_enter Try.func4, Try.ntmps4
  have HB := Lib.hid (Below.refl w.heap.size w)
  have hb := (((Below.refl w.heap.size w).alloc (Nat.le_refl _) (.cells #[.slice a0 s0.length cap0] 37)).alloc (by simp) (.cells #[.slice a1 s1.length cap1] 37))
  have K_p0 := Lib.hid (blocks2 w (.cells #[.slice a0 s0.length cap0] 37) (.cells #[.slice a1 s1.length cap1] 37)).1
  have K_p1 := Lib.hid (blocks2 w (.cells #[.slice a0 s0.length cap0] 37) (.cells #[.slice a1 s1.length cap1] 37)).2
  have R_p0 := Lib.hid (lt_of_block K_p0.out)
  have R_p1 := Lib.hid (lt_of_block K_p1.out)
  replace A0 := Lib.hid (A0.out.behind hb)
  replace A1 := Lib.hid (A1.out.behind hb)
  replace HB := Lib.hid hb
  clear hb
  have k_p0 := blk_cell K_p0.out 0
  rw [one0] at k_p0
  have k_p1 := blk_cell K_p1.out 0
  rw [one0] at k_p1
  go_wp2_with fail
  clear k_p0 k_p1
  obtain ⟨w1_, hw⟩ : ∃ x, x = ((w.alloc (.cells #[.slice a0 s0.length cap0] 37)).alloc (.cells #[.slice a1 s1.length cap1] 37)) := ⟨_, rfl⟩
  rw [← hw] at HB A0 A1 K_p0 K_p1 R_p0 R_p1 ⊢
  clear hw
  refine (szDatabase_any A0.out (by omega) (by omega) HB.out.size).mono ?_
  rintro e w2_ ⟨he, hb⟩
  rw [if_pos (by have := c0.out; omega), ← H0q.out] at he
  subst he
  replace A0 := Lib.hid (A0.out.behind (hb.mono HB.out.size))
  replace A1 := Lib.hid (A1.out.behind (hb.mono HB.out.size))
  replace K_p0 := Lib.hid ((hb.block (w.heap.size) (lt_of_block K_p0.out)).trans K_p0.out)
  replace K_p1 := Lib.hid ((hb.block (w.heap.size + 1) (lt_of_block K_p1.out)).trans K_p1.out)
  replace HB := Lib.hid (HB.out.trans (hb.mono HB.out.size))
  clear hb
  have k_p0 := blk_cell K_p0.out 0
  rw [one0] at k_p0
  have k_p1 := blk_cell K_p1.out 0
  rw [one0] at k_p1
  go_wp2_with fail
  clear k_p0 k_p1
  refine (szDatabase_any A1.out (by omega) (by omega) HB.out.size).mono ?_
  rintro e w3_ ⟨he, hb⟩
  rw [if_pos (by have := c1.out; omega), ← H1q.out] at he
  subst he
  replace A0 := Lib.hid (A0.out.behind (hb.mono HB.out.size))
  replace A1 := Lib.hid (A1.out.behind (hb.mono HB.out.size))
  replace K_p0 := Lib.hid ((hb.block (w.heap.size) (lt_of_block K_p0.out)).trans K_p0.out)
  replace K_p1 := Lib.hid ((hb.block (w.heap.size + 1) (lt_of_block K_p1.out)).trans K_p1.out)
  replace HB := Lib.hid (HB.out.trans (hb.mono HB.out.size))
  clear hb
  -- ('sz', 0, 'Db')
  -- ('sz', 1, 'Db')
  -- ('call', 'spec', 'XorDatabases', [('copy', 0, 'Db'), ('copy', 1, 'Db')], ['w0', 'w1'])
  have k_p0 := blk_cell K_p0.out 0
  rw [one0] at k_p0
  have k_p1 := blk_cell K_p1.out 0
  rw [one0] at k_p1
  go_wp2_with fail
  clear k_p0 k_p1
  go_cut [6, 7] (fun p b wx => ∃ (B lo hi : Nat) (a : Option Addr) (L c : Nat), p = .pointer (some ⟨B, 0, none⟩) ∧ b = .bool (xdK s0 s1) ∧ Own2 22 5 .u8 (ival lo hi) wx (.slice a L c) ((xd s0 s1)) ∧ wx.heap[B]? = some (.cells #[.slice a L c] 39) ∧ w3_.heap.size ≤ lo ∧ lo ≤ hi ∧ hi ≤ wx.heap.size ∧ (B < lo ∨ hi ≤ B) ∧ w3_.heap.size ≤ B ∧ Below w3_.heap.size w3_ wx)
  case first =>
    have A0' := Lib.hid (A0.out.behind ((Below.refl w3_.heap.size w3_).drew.mono HB.out.size))
    have K_p0' : Hid (w3_.drew.heap[w.heap.size]? = some (.cells #[.slice a0 s0.length cap0] 37)) := Lib.hid K_p0.out
    have A1' := Lib.hid (A1.out.behind ((Below.refl w3_.heap.size w3_).drew.mono HB.out.size))
    have K_p1' : Hid (w3_.drew.heap[w.heap.size + 1]? = some (.cells #[.slice a1 s1.length cap1] 37)) := Lib.hid K_p1.out
    have HC : Hid (Below w3_.heap.size w3_ w3_.drew) := Lib.hid (Below.refl _ _).drew
    have d0 : w3_.drew.cell? ⟨w.heap.size, 0, none⟩ = some (.slice a0 s0.length cap0) ∧ w3_.drew.cell? ⟨w.heap.size + 1, 0, none⟩ = some (.slice a1 s1.length cap1) := ⟨(blk_cell K_p0'.out 0).trans (one0 _), (blk_cell K_p1'.out 0).trans (one0 _)⟩
    refine region_till (fun w' => w'.cell? ⟨w.heap.size, 0, none⟩ = some (.slice a0 s0.length cap0) ∧ w'.cell? ⟨w.heap.size + 1, 0, none⟩ = some (.slice a1 s1.length cap1)) 10 (by kernel_rfl) ?_
    obtain ⟨y0_, hy⟩ : ∃ y, y = w3_.drew := ⟨_, rfl⟩
    rw [← hy] at A0' K_p0' A1' K_p1' HC d0 ⊢
    clear hy
    apply Till.take (i := 0) [0, 1, 4, 5, 6, 9, 10]
    · simp only [List.getElem?_toArray, List.getElem?_cons_zero]
      rfl
    · kernel_rfl
    · kernel_rfl
    · kernel_rfl
    · kernel_rfl
    · exact fun _ _ _ h => h
    · first
        | exact Or.inr ⟨by rfl, rfl⟩
        | (refine Or.inl ⟨by rfl, fun wq hwq => ?_⟩
           dsimp only at hwq
           go_simp
           first
             | done
             | rfl)
    · exact d0
    simp only [Act.put, List.setIfInBounds_toArray, List.set_cons_zero, List.set_cons_succ]
    apply Till.take (i := 2) [2, 3, 4, 5, 6, 9, 10]
    · simp only [List.getElem?_toArray, List.getElem?_cons_succ, List.getElem?_cons_zero]
      rfl
    · kernel_rfl
    · kernel_rfl
    · kernel_rfl
    · kernel_rfl
    · exact fun _ _ _ h => h
    · first
        | exact Or.inr ⟨by rfl, rfl⟩
        | (refine Or.inl ⟨by rfl, fun wq hwq => ?_⟩
           dsimp only at hwq
           go_simp
           first
             | done
             | rfl)
    · exact d0
    simp only [Act.put, List.setIfInBounds_toArray, List.set_cons_zero, List.set_cons_succ]
    apply Till.two (i := 1) (j := 8)
    · kernel_rfl
    · simp only [List.getElem?_toArray, List.getElem?_cons_succ, List.getElem?_cons_zero]
      rfl
    · simp only [List.getElem?_toArray, List.getElem?_cons_succ, List.getElem?_cons_zero]
      rfl
    ·
      intro K hK
      go_simp
      refine (toDatabase_any A0'.out (Nat.le_trans HB.out.size HC.out.size) (by omega)).mono ?_
      rintro e' y1_ ⟨vt, he, hO, hb⟩
      subst he
      obtain ⟨L_0, hL⟩ : ∃ L, L = (s0).length := ⟨_, rfl⟩
      obtain ⟨a_0, c_0, hv, _⟩ := hO.open
      rw [← hL] at hv
      clear hL
      subst hv
      have hbx : Below y0_.heap.size y0_ y1_ := hb
      replace A0' := Lib.hid (A0'.out.behind (hbx.mono (Nat.le_trans HB.out.size HC.out.size)))
      replace K_p0' := Lib.hid ((hbx.block (w.heap.size) (lt_of_block K_p0'.out)).trans K_p0'.out)
      replace A1' := Lib.hid (A1'.out.behind (hbx.mono (Nat.le_trans HB.out.size HC.out.size)))
      replace K_p1' := Lib.hid ((hbx.block (w.heap.size + 1) (lt_of_block K_p1'.out)).trans K_p1'.out)
      replace HC := Lib.hid (HC.out.trans (hbx.mono HC.out.size))
      have T_0 := Lib.hid hO
      clear hO hb hbx
      have d1 : y1_.cell? ⟨w.heap.size, 0, none⟩ = some (.slice a0 s0.length cap0) ∧ y1_.cell? ⟨w.heap.size + 1, 0, none⟩ = some (.slice a1 s1.length cap1) := ⟨(blk_cell K_p0'.out 0).trans (one0 _), (blk_cell K_p1'.out 0).trans (one0 _)⟩
      refine hK.out _ _ (Or.inr d1) ?_
      clear hK K
      try simp only [Act.put, List.setIfInBounds_toArray, List.set_cons_zero, List.set_cons_succ]
      apply Till.two (i := 3) (j := 8)
      · kernel_rfl
      · simp only [List.getElem?_toArray, List.getElem?_cons_succ, List.getElem?_cons_zero]
        rfl
      · simp only [List.getElem?_toArray, List.getElem?_cons_succ, List.getElem?_cons_zero]
        rfl
      ·
        intro K hK
        go_simp
        refine (toDatabase_any A1'.out (Nat.le_trans HB.out.size HC.out.size) (by omega)).mono ?_
        rintro e' y2_ ⟨vt, he, hO, hb⟩
        subst he
        obtain ⟨L_1, hL⟩ : ∃ L, L = (s1).length := ⟨_, rfl⟩
        obtain ⟨a_1, c_1, hv, _⟩ := hO.open
        rw [← hL] at hv
        clear hL
        subst hv
        have hbx : Below y1_.heap.size y1_ y2_ := hb
        replace A0' := Lib.hid (A0'.out.behind (hbx.mono (Nat.le_trans HB.out.size HC.out.size)))
        replace K_p0' := Lib.hid ((hbx.block (w.heap.size) (lt_of_block K_p0'.out)).trans K_p0'.out)
        replace A1' := Lib.hid (A1'.out.behind (hbx.mono (Nat.le_trans HB.out.size HC.out.size)))
        replace K_p1' := Lib.hid ((hbx.block (w.heap.size + 1) (lt_of_block K_p1'.out)).trans K_p1'.out)
        replace T_0 := Lib.hid (T_0.out.next hbx)
        replace HC := Lib.hid (HC.out.trans (hbx.mono HC.out.size))
        have T_1 := Lib.hid hO
        clear hO hb hbx
        have d2 : y2_.cell? ⟨w.heap.size, 0, none⟩ = some (.slice a0 s0.length cap0) ∧ y2_.cell? ⟨w.heap.size + 1, 0, none⟩ = some (.slice a1 s1.length cap1) := ⟨(blk_cell K_p0'.out 0).trans (one0 _), (blk_cell K_p1'.out 0).trans (one0 _)⟩
        refine hK.out _ _ (Or.inr d2) ?_
        clear hK K
        try simp only [Act.put, List.setIfInBounds_toArray, List.set_cons_zero, List.set_cons_succ]
        apply Till.two (i := 4) (j := 8)
        · kernel_rfl
        · simp only [List.getElem?_toArray, List.getElem?_cons_succ, List.getElem?_cons_zero]
          rfl
        · simp only [List.getElem?_toArray, List.getElem?_cons_succ, List.getElem?_cons_zero]
          rfl
        ·
          intro K hK
          go_simp
          refine (spec_aw T_0.out.rd2 T_1.out.rd2 (Nat.le_refl _) (Nat.le_refl _) (by omega) (by omega)).mono ?_
          rintro e' y3_ ⟨vt, he, hO, hb⟩
          subst he
          obtain ⟨L_9, hL⟩ : ∃ L, L = ((xd s0 s1)).length := ⟨_, rfl⟩
          obtain ⟨a_9, c_9, hv, _⟩ := hO.open
          rw [← hL] at hv
          clear hL
          subst hv
          have HLo : Hid (w3_.heap.size ≤ y2_.heap.size) := Lib.hid HC.out.size
          have hbx : Below y2_.heap.size y2_ y3_ := hb
          replace A0' := Lib.hid (A0'.out.behind (hbx.mono (Nat.le_trans HB.out.size HC.out.size)))
          replace K_p0' := Lib.hid ((hbx.block (w.heap.size) (lt_of_block K_p0'.out)).trans K_p0'.out)
          replace A1' := Lib.hid (A1'.out.behind (hbx.mono (Nat.le_trans HB.out.size HC.out.size)))
          replace K_p1' := Lib.hid ((hbx.block (w.heap.size + 1) (lt_of_block K_p1'.out)).trans K_p1'.out)
          replace HC := Lib.hid (HC.out.trans (hbx.mono HC.out.size))
          have HSh : Hid (y2_.heap.size ≤ y3_.heap.size) := Lib.hid hb.size
          have T_9 := Lib.hid hO
          have HHi : Hid (y3_.heap.size ≤ y3_.heap.size) := Lib.hid (Nat.le_refl _)
          clear hO hb hbx
          have d3 : y3_.cell? ⟨w.heap.size, 0, none⟩ = some (.slice a0 s0.length cap0) ∧ y3_.cell? ⟨w.heap.size + 1, 0, none⟩ = some (.slice a1 s1.length cap1) := ⟨(blk_cell K_p0'.out 0).trans (one0 _), (blk_cell K_p1'.out 0).trans (one0 _)⟩
          refine hK.out _ _ (Or.inr d3) ?_
          clear hK K
          try simp only [Act.put, List.setIfInBounds_toArray, List.set_cons_zero, List.set_cons_succ]
          apply Till.take (i := 5) [5, 6, 9, 10]
          · simp only [List.getElem?_toArray, List.getElem?_cons_succ, List.getElem?_cons_zero]
            rfl
          · kernel_rfl
          · kernel_rfl
          · kernel_rfl
          · kernel_rfl
          · exact fun _ _ _ h => h
          · first
              | exact Or.inr ⟨by rfl, rfl⟩
              | (refine Or.inl ⟨by rfl, fun wq hwq => ?_⟩
                 dsimp only at hwq
                 go_simp
                 first
                   | done
                   | rfl)
          · exact d3
          simp only [Act.put, List.setIfInBounds_toArray, List.set_cons_zero, List.set_cons_succ]
          apply Till.take (i := 6) [6, 9, 10]
          · simp only [List.getElem?_toArray, List.getElem?_cons_succ, List.getElem?_cons_zero]
            rfl
          · kernel_rfl
          · kernel_rfl
          · kernel_rfl
          · kernel_rfl
          · exact fun _ _ _ h => h
          · first
              | exact Or.inr ⟨by rfl, rfl⟩
              | (refine Or.inl ⟨by rfl, fun wq hwq => ?_⟩
                 dsimp only at hwq
                 go_simp
                 first
                   | done
                   | rfl)
          · exact d3
          simp only [Act.put, List.setIfInBounds_toArray, List.set_cons_zero, List.set_cons_succ]
          apply Till.take (i := 7) [7, 10]
          · simp only [List.getElem?_toArray, List.getElem?_cons_succ, List.getElem?_cons_zero]
            rfl
          · kernel_rfl
          · kernel_rfl
          · kernel_rfl
          · kernel_rfl
          · exact fun _ _ _ h => h
          · first
              | exact Or.inr ⟨by rfl, rfl⟩
              | (refine Or.inl ⟨by rfl, fun wq hwq => ?_⟩
                 dsimp only at hwq
                 go_simp
                 first
                   | done
                   | rfl)
          · exact d3
          simp only [Act.put, List.setIfInBounds_toArray, List.set_cons_zero, List.set_cons_succ]
          apply Till.one (i := 8)
          · kernel_rfl
          · simp only [List.getElem?_toArray, List.getElem?_cons_succ, List.getElem?_cons_zero]
            rfl
          intro K hK
          go_simp
          have hbx : Below y3_.heap.size y3_ (y3_.alloc (.cells #[.slice none 0 0] 39)) := (Below.refl _ _).alloc (Nat.le_refl _) _
          replace A0' := Lib.hid (A0'.out.behind (hbx.mono (Nat.le_trans HB.out.size HC.out.size)))
          replace K_p0' := Lib.hid ((hbx.block (w.heap.size) (lt_of_block K_p0'.out)).trans K_p0'.out)
          replace A1' := Lib.hid (A1'.out.behind (hbx.mono (Nat.le_trans HB.out.size HC.out.size)))
          replace K_p1' := Lib.hid ((hbx.block (w.heap.size + 1) (lt_of_block K_p1'.out)).trans K_p1'.out)
          replace T_9 := Lib.hid (T_9.out.next hbx)
          replace HHi := Lib.hid (Nat.le_trans HHi.out hbx.size)
          have HBB : Hid (w3_.heap.size ≤ y3_.heap.size) := Lib.hid HC.out.size
          replace HC := Lib.hid (HC.out.trans (hbx.mono HC.out.size))
          have KB := Lib.hid (heap_alloc_new y3_ (.cells #[.slice none 0 0] 39))
          clear hbx
          have d4 : (y3_.alloc (.cells #[.slice none 0 0] 39)).cell? ⟨w.heap.size, 0, none⟩ = some (.slice a0 s0.length cap0) ∧ (y3_.alloc (.cells #[.slice none 0 0] 39)).cell? ⟨w.heap.size + 1, 0, none⟩ = some (.slice a1 s1.length cap1) := ⟨(blk_cell K_p0'.out 0).trans (one0 _), (blk_cell K_p1'.out 0).trans (one0 _)⟩
          obtain ⟨y4_, hy⟩ : ∃ y, y = (y3_.alloc (.cells #[.slice none 0 0] 39)) := ⟨_, rfl⟩
          rw [← hy] at A0' K_p0' A1' K_p1' HC KB d4 T_9 HHi ⊢
          clear hy
          refine hK.out _ _ (Or.inr d4) ?_
          clear hK K
          try simp only [Act.put, List.setIfInBounds_toArray, List.set_cons_zero, List.set_cons_succ]
          have cB := blk_cell KB.out 0
          have fB := blk_free KB.out 0
          rw [one0] at cB
          obtain ⟨hD8, _, k8⟩ := store1 KB.out (.slice a_9 L_9 c_9)
          have d99 : (y4_.setCell ⟨y3_.heap.size, 0, none⟩ (.slice a_9 L_9 c_9)).cell? ⟨w.heap.size, 0, none⟩ = some (.slice a0 s0.length cap0) ∧ (y4_.setCell ⟨y3_.heap.size, 0, none⟩ (.slice a_9 L_9 c_9)).cell? ⟨w.heap.size + 1, 0, none⟩ = some (.slice a1 s1.length cap1) := ⟨(blk_cell ((k8.block (w.heap.size) (lt_of_block K_p0'.out) (by have := HBB.out; have := lt_of_block K_p0.out; omega)).trans K_p0'.out) 0).trans (one0 _), (blk_cell ((k8.block (w.heap.size + 1) (lt_of_block K_p1'.out) (by have := HBB.out; have := lt_of_block K_p1.out; omega)).trans K_p1'.out) 0).trans (one0 _)⟩
          apply Till.one (i := 9)
          · kernel_rfl
          · simp only [List.getElem?_toArray, List.getElem?_cons_succ, List.getElem?_cons_zero]
            rfl
          intro K hK
          go_simp
          skip
          refine hK.out _ _ (Or.inr d99) ?_
          clear hK K
          try simp only [Act.put, List.setIfInBounds_toArray, List.set_cons_zero, List.set_cons_succ]
          obtain ⟨W8, hW8⟩ : ∃ W8, W8 = (y4_.setCell ⟨y3_.heap.size, 0, none⟩ (.slice a_9 L_9 c_9)) := ⟨_, rfl⟩
          have hs8 : W8.heap.size = y4_.heap.size := by rw [hW8, World.setCell_size]
          rw [← hW8] at hD8 k8 d99 ⊢
          clear hW8
          apply Till.one (i := 10)
          · kernel_rfl
          · simp only [List.getElem?_toArray, List.getElem?_cons_succ, List.getElem?_cons_zero]
            rfl
          intro K hK
          go_simp
          skip
          refine hK.out _ _ (Or.inl (by rfl)) ?_
          clear hK K
          try simp only [Act.put, List.setIfInBounds_toArray, List.set_cons_zero, List.set_cons_succ]
          refine Till.done (by kernel_rfl) ?_ _
          have hpos : y3_.heap.size < y2_.heap.size ∨ y3_.heap.size ≤ y3_.heap.size := by first | exact Or.inl HBl.out | exact Or.inr (Nat.le_refl _)
          have hT := T_9.out.keptF k8 (fun b hb => by unfold ival at hb; omega)
          have hBl := HC.out.trans (k8.below (B := w3_.heap.size) (fun b hb => by have := HBB.out; omega) HC.out.size)
          have hSh := HSh.out
          have hLo := HLo.out
          have hHi := HHi.out
          have hBB := HBB.out
          have hHi8 : y3_.heap.size ≤ W8.heap.size := by omega
          clear cB fB d99 k8 hs8 hHi
          go_wp2_with fail
          go_meet
          case rel => exact ⟨_, y2_.heap.size, y3_.heap.size, _, _, _, rfl, rfl, hT, hD8, hLo, hSh, hHi8, hpos, hBB, hBl⟩
        ·
          intro K hK
          go_simp
          have hbx : Below y2_.heap.size y2_ (y2_.alloc (.cells #[.slice none 0 0] 39)) := (Below.refl _ _).alloc (Nat.le_refl _) _
          replace A0' := Lib.hid (A0'.out.behind (hbx.mono (Nat.le_trans HB.out.size HC.out.size)))
          replace K_p0' := Lib.hid ((hbx.block (w.heap.size) (lt_of_block K_p0'.out)).trans K_p0'.out)
          replace A1' := Lib.hid (A1'.out.behind (hbx.mono (Nat.le_trans HB.out.size HC.out.size)))
          replace K_p1' := Lib.hid ((hbx.block (w.heap.size + 1) (lt_of_block K_p1'.out)).trans K_p1'.out)
          replace T_0 := Lib.hid (T_0.out.next hbx)
          replace T_1 := Lib.hid (T_1.out.next hbx)
          have HBB : Hid (w3_.heap.size ≤ y2_.heap.size) := Lib.hid HC.out.size
          replace HC := Lib.hid (HC.out.trans (hbx.mono HC.out.size))
          have KB := Lib.hid (heap_alloc_new y2_ (.cells #[.slice none 0 0] 39))
          clear hbx
          have d5 : (y2_.alloc (.cells #[.slice none 0 0] 39)).cell? ⟨w.heap.size, 0, none⟩ = some (.slice a0 s0.length cap0) ∧ (y2_.alloc (.cells #[.slice none 0 0] 39)).cell? ⟨w.heap.size + 1, 0, none⟩ = some (.slice a1 s1.length cap1) := ⟨(blk_cell K_p0'.out 0).trans (one0 _), (blk_cell K_p1'.out 0).trans (one0 _)⟩
          obtain ⟨y5_, hy⟩ : ∃ y, y = (y2_.alloc (.cells #[.slice none 0 0] 39)) := ⟨_, rfl⟩
          rw [← hy] at A0' K_p0' A1' K_p1' HC KB d5 T_0 T_1 ⊢
          clear hy
          refine hK.out _ _ (Or.inr d5) ?_
          clear hK K
          try simp only [Act.put, List.setIfInBounds_toArray, List.set_cons_zero, List.set_cons_succ]
          apply Till.one (i := 4)
          · kernel_rfl
          · simp only [List.getElem?_toArray, List.getElem?_cons_succ, List.getElem?_cons_zero]
            rfl
          intro K hK
          go_simp
          refine (spec_aw T_0.out.rd2 T_1.out.rd2 (Nat.le_refl _) (Nat.le_refl _) (by omega) (by omega)).mono ?_
          rintro e' y6_ ⟨vt, he, hO, hb⟩
          subst he
          obtain ⟨L_9, hL⟩ : ∃ L, L = ((xd s0 s1)).length := ⟨_, rfl⟩
          obtain ⟨a_9, c_9, hv, _⟩ := hO.open
          rw [← hL] at hv
          clear hL
          subst hv
          have HLo : Hid (w3_.heap.size ≤ y5_.heap.size) := Lib.hid HC.out.size
          have HBl : Hid (y2_.heap.size < y5_.heap.size) := Lib.hid (lt_of_block KB.out)
          have hbx : Below y5_.heap.size y5_ y6_ := hb
          replace A0' := Lib.hid (A0'.out.behind (hbx.mono (Nat.le_trans HB.out.size HC.out.size)))
          replace K_p0' := Lib.hid ((hbx.block (w.heap.size) (lt_of_block K_p0'.out)).trans K_p0'.out)
          replace A1' := Lib.hid (A1'.out.behind (hbx.mono (Nat.le_trans HB.out.size HC.out.size)))
          replace K_p1' := Lib.hid ((hbx.block (w.heap.size + 1) (lt_of_block K_p1'.out)).trans K_p1'.out)
          replace KB := Lib.hid ((hbx.block _ (lt_of_block KB.out)).trans KB.out)
          replace HC := Lib.hid (HC.out.trans (hbx.mono HC.out.size))
          have HSh : Hid (y5_.heap.size ≤ y6_.heap.size) := Lib.hid hb.size
          have T_9 := Lib.hid hO
          have HHi : Hid (y6_.heap.size ≤ y6_.heap.size) := Lib.hid (Nat.le_refl _)
          clear hO hb hbx
          have d6 : y6_.cell? ⟨w.heap.size, 0, none⟩ = some (.slice a0 s0.length cap0) ∧ y6_.cell? ⟨w.heap.size + 1, 0, none⟩ = some (.slice a1 s1.length cap1) := ⟨(blk_cell K_p0'.out 0).trans (one0 _), (blk_cell K_p1'.out 0).trans (one0 _)⟩
          refine hK.out _ _ (Or.inr d6) ?_
          clear hK K
          try simp only [Act.put, List.setIfInBounds_toArray, List.set_cons_zero, List.set_cons_succ]
          apply Till.take (i := 5) [5, 6, 9, 10]
          · simp only [List.getElem?_toArray, List.getElem?_cons_succ, List.getElem?_cons_zero]
            rfl
          · kernel_rfl
          · kernel_rfl
          · kernel_rfl
          · kernel_rfl
          · exact fun _ _ _ h => h
          · first
              | exact Or.inr ⟨by rfl, rfl⟩
              | (refine Or.inl ⟨by rfl, fun wq hwq => ?_⟩
                 dsimp only at hwq
                 go_simp
                 first
                   | done
                   | rfl)
          · exact d6
          simp only [Act.put, List.setIfInBounds_toArray, List.set_cons_zero, List.set_cons_succ]
          apply Till.take (i := 6) [6, 9, 10]
          · simp only [List.getElem?_toArray, List.getElem?_cons_succ, List.getElem?_cons_zero]
            rfl
          · kernel_rfl
          · kernel_rfl
          · kernel_rfl
          · kernel_rfl
          · exact fun _ _ _ h => h
          · first
              | exact Or.inr ⟨by rfl, rfl⟩
              | (refine Or.inl ⟨by rfl, fun wq hwq => ?_⟩
                 dsimp only at hwq
                 go_simp
                 first
                   | done
                   | rfl)
          · exact d6
          simp only [Act.put, List.setIfInBounds_toArray, List.set_cons_zero, List.set_cons_succ]
          apply Till.take (i := 7) [7, 10]
          · simp only [List.getElem?_toArray, List.getElem?_cons_succ, List.getElem?_cons_zero]
            rfl
          · kernel_rfl
          · kernel_rfl
          · kernel_rfl
          · kernel_rfl
          · exact fun _ _ _ h => h
          · first
              | exact Or.inr ⟨by rfl, rfl⟩
              | (refine Or.inl ⟨by rfl, fun wq hwq => ?_⟩
                 dsimp only at hwq
                 go_simp
                 first
                   | done
                   | rfl)
          · exact d6
          simp only [Act.put, List.setIfInBounds_toArray, List.set_cons_zero, List.set_cons_succ]
          have cB := blk_cell KB.out 0
          have fB := blk_free KB.out 0
          rw [one0] at cB
          obtain ⟨hD8, _, k8⟩ := store1 KB.out (.slice a_9 L_9 c_9)
          have d99 : (y6_.setCell ⟨y2_.heap.size, 0, none⟩ (.slice a_9 L_9 c_9)).cell? ⟨w.heap.size, 0, none⟩ = some (.slice a0 s0.length cap0) ∧ (y6_.setCell ⟨y2_.heap.size, 0, none⟩ (.slice a_9 L_9 c_9)).cell? ⟨w.heap.size + 1, 0, none⟩ = some (.slice a1 s1.length cap1) := ⟨(blk_cell ((k8.block (w.heap.size) (lt_of_block K_p0'.out) (by have := HBB.out; have := lt_of_block K_p0.out; omega)).trans K_p0'.out) 0).trans (one0 _), (blk_cell ((k8.block (w.heap.size + 1) (lt_of_block K_p1'.out) (by have := HBB.out; have := lt_of_block K_p1.out; omega)).trans K_p1'.out) 0).trans (one0 _)⟩
          apply Till.one (i := 9)
          · kernel_rfl
          · simp only [List.getElem?_toArray, List.getElem?_cons_succ, List.getElem?_cons_zero]
            rfl
          intro K hK
          go_simp
          skip
          refine hK.out _ _ (Or.inr d99) ?_
          clear hK K
          try simp only [Act.put, List.setIfInBounds_toArray, List.set_cons_zero, List.set_cons_succ]
          obtain ⟨W8, hW8⟩ : ∃ W8, W8 = (y6_.setCell ⟨y2_.heap.size, 0, none⟩ (.slice a_9 L_9 c_9)) := ⟨_, rfl⟩
          have hs8 : W8.heap.size = y6_.heap.size := by rw [hW8, World.setCell_size]
          rw [← hW8] at hD8 k8 d99 ⊢
          clear hW8
          apply Till.one (i := 10)
          · kernel_rfl
          · simp only [List.getElem?_toArray, List.getElem?_cons_succ, List.getElem?_cons_zero]
            rfl
          intro K hK
          go_simp
          skip
          refine hK.out _ _ (Or.inl (by rfl)) ?_
          clear hK K
          try simp only [Act.put, List.setIfInBounds_toArray, List.set_cons_zero, List.set_cons_succ]
          refine Till.done (by kernel_rfl) ?_ _
          have hpos : y2_.heap.size < y5_.heap.size ∨ y6_.heap.size ≤ y2_.heap.size := by first | exact Or.inl HBl.out | exact Or.inr (Nat.le_refl _)
          have hT := T_9.out.keptF k8 (fun b hb => by unfold ival at hb; omega)
          have hBl := HC.out.trans (k8.below (B := w3_.heap.size) (fun b hb => by have := HBB.out; omega) HC.out.size)
          have hSh := HSh.out
          have hLo := HLo.out
          have hHi := HHi.out
          have hBB := HBB.out
          have hHi8 : y6_.heap.size ≤ W8.heap.size := by omega
          clear cB fB d99 k8 hs8 hHi
          go_wp2_with fail
          go_meet
          case rel => exact ⟨_, y5_.heap.size, y6_.heap.size, _, _, _, rfl, rfl, hT, hD8, hLo, hSh, hHi8, hpos, hBB, hBl⟩
      ·
        intro K hK
        go_simp
        have hbx : Below y1_.heap.size y1_ (y1_.alloc (.cells #[.slice none 0 0] 39)) := (Below.refl _ _).alloc (Nat.le_refl _) _
        replace A0' := Lib.hid (A0'.out.behind (hbx.mono (Nat.le_trans HB.out.size HC.out.size)))
        replace K_p0' := Lib.hid ((hbx.block (w.heap.size) (lt_of_block K_p0'.out)).trans K_p0'.out)
        replace A1' := Lib.hid (A1'.out.behind (hbx.mono (Nat.le_trans HB.out.size HC.out.size)))
        replace K_p1' := Lib.hid ((hbx.block (w.heap.size + 1) (lt_of_block K_p1'.out)).trans K_p1'.out)
        replace T_0 := Lib.hid (T_0.out.next hbx)
        have HBB : Hid (w3_.heap.size ≤ y1_.heap.size) := Lib.hid HC.out.size
        replace HC := Lib.hid (HC.out.trans (hbx.mono HC.out.size))
        have KB := Lib.hid (heap_alloc_new y1_ (.cells #[.slice none 0 0] 39))
        clear hbx
        have d7 : (y1_.alloc (.cells #[.slice none 0 0] 39)).cell? ⟨w.heap.size, 0, none⟩ = some (.slice a0 s0.length cap0) ∧ (y1_.alloc (.cells #[.slice none 0 0] 39)).cell? ⟨w.heap.size + 1, 0, none⟩ = some (.slice a1 s1.length cap1) := ⟨(blk_cell K_p0'.out 0).trans (one0 _), (blk_cell K_p1'.out 0).trans (one0 _)⟩
        obtain ⟨y7_, hy⟩ : ∃ y, y = (y1_.alloc (.cells #[.slice none 0 0] 39)) := ⟨_, rfl⟩
        rw [← hy] at A0' K_p0' A1' K_p1' HC KB d7 T_0 ⊢
        clear hy
        refine hK.out _ _ (Or.inr d7) ?_
        clear hK K
        try simp only [Act.put, List.setIfInBounds_toArray, List.set_cons_zero, List.set_cons_succ]
        apply Till.one (i := 3)
        · kernel_rfl
        · simp only [List.getElem?_toArray, List.getElem?_cons_succ, List.getElem?_cons_zero]
          rfl
        intro K hK
        go_simp
        refine (toDatabase_any A1'.out (Nat.le_trans HB.out.size HC.out.size) (by omega)).mono ?_
        rintro e' y8_ ⟨vt, he, hO, hb⟩
        subst he
        obtain ⟨L_1, hL⟩ : ∃ L, L = (s1).length := ⟨_, rfl⟩
        obtain ⟨a_1, c_1, hv, _⟩ := hO.open
        rw [← hL] at hv
        clear hL
        subst hv
        have hbx : Below y7_.heap.size y7_ y8_ := hb
        replace A0' := Lib.hid (A0'.out.behind (hbx.mono (Nat.le_trans HB.out.size HC.out.size)))
        replace K_p0' := Lib.hid ((hbx.block (w.heap.size) (lt_of_block K_p0'.out)).trans K_p0'.out)
        replace A1' := Lib.hid (A1'.out.behind (hbx.mono (Nat.le_trans HB.out.size HC.out.size)))
        replace K_p1' := Lib.hid ((hbx.block (w.heap.size + 1) (lt_of_block K_p1'.out)).trans K_p1'.out)
        replace T_0 := Lib.hid (T_0.out.next hbx)
        replace KB := Lib.hid ((hbx.block _ (lt_of_block KB.out)).trans KB.out)
        replace HC := Lib.hid (HC.out.trans (hbx.mono HC.out.size))
        have T_1 := Lib.hid hO
        clear hO hb hbx
        have d8 : y8_.cell? ⟨w.heap.size, 0, none⟩ = some (.slice a0 s0.length cap0) ∧ y8_.cell? ⟨w.heap.size + 1, 0, none⟩ = some (.slice a1 s1.length cap1) := ⟨(blk_cell K_p0'.out 0).trans (one0 _), (blk_cell K_p1'.out 0).trans (one0 _)⟩
        refine hK.out _ _ (Or.inr d8) ?_
        clear hK K
        try simp only [Act.put, List.setIfInBounds_toArray, List.set_cons_zero, List.set_cons_succ]
        apply Till.one (i := 4)
        · kernel_rfl
        · simp only [List.getElem?_toArray, List.getElem?_cons_succ, List.getElem?_cons_zero]
          rfl
        intro K hK
        go_simp
        refine (spec_aw T_0.out.rd2 T_1.out.rd2 (Nat.le_refl _) (Nat.le_refl _) (by omega) (by omega)).mono ?_
        rintro e' y9_ ⟨vt, he, hO, hb⟩
        subst he
        obtain ⟨L_9, hL⟩ : ∃ L, L = ((xd s0 s1)).length := ⟨_, rfl⟩
        obtain ⟨a_9, c_9, hv, _⟩ := hO.open
        rw [← hL] at hv
        clear hL
        subst hv
        have HLo : Hid (w3_.heap.size ≤ y8_.heap.size) := Lib.hid HC.out.size
        have HBl : Hid (y1_.heap.size < y8_.heap.size) := Lib.hid (lt_of_block KB.out)
        have hbx : Below y8_.heap.size y8_ y9_ := hb
        replace A0' := Lib.hid (A0'.out.behind (hbx.mono (Nat.le_trans HB.out.size HC.out.size)))
        replace K_p0' := Lib.hid ((hbx.block (w.heap.size) (lt_of_block K_p0'.out)).trans K_p0'.out)
        replace A1' := Lib.hid (A1'.out.behind (hbx.mono (Nat.le_trans HB.out.size HC.out.size)))
        replace K_p1' := Lib.hid ((hbx.block (w.heap.size + 1) (lt_of_block K_p1'.out)).trans K_p1'.out)
        replace KB := Lib.hid ((hbx.block _ (lt_of_block KB.out)).trans KB.out)
        replace HC := Lib.hid (HC.out.trans (hbx.mono HC.out.size))
        have HSh : Hid (y8_.heap.size ≤ y9_.heap.size) := Lib.hid hb.size
        have T_9 := Lib.hid hO
        have HHi : Hid (y9_.heap.size ≤ y9_.heap.size) := Lib.hid (Nat.le_refl _)
        clear hO hb hbx
        have d9 : y9_.cell? ⟨w.heap.size, 0, none⟩ = some (.slice a0 s0.length cap0) ∧ y9_.cell? ⟨w.heap.size + 1, 0, none⟩ = some (.slice a1 s1.length cap1) := ⟨(blk_cell K_p0'.out 0).trans (one0 _), (blk_cell K_p1'.out 0).trans (one0 _)⟩
        refine hK.out _ _ (Or.inr d9) ?_
        clear hK K
        try simp only [Act.put, List.setIfInBounds_toArray, List.set_cons_zero, List.set_cons_succ]
        apply Till.take (i := 5) [5, 6, 9, 10]
        · simp only [List.getElem?_toArray, List.getElem?_cons_succ, List.getElem?_cons_zero]
          rfl
        · kernel_rfl
        · kernel_rfl
        · kernel_rfl
        · kernel_rfl
        · exact fun _ _ _ h => h
        · first
            | exact Or.inr ⟨by rfl, rfl⟩
            | (refine Or.inl ⟨by rfl, fun wq hwq => ?_⟩
               dsimp only at hwq
               go_simp
               first
                 | done
                 | rfl)
        · exact d9
        simp only [Act.put, List.setIfInBounds_toArray, List.set_cons_zero, List.set_cons_succ]
        apply Till.take (i := 6) [6, 9, 10]
        · simp only [List.getElem?_toArray, List.getElem?_cons_succ, List.getElem?_cons_zero]
          rfl
        · kernel_rfl
        · kernel_rfl
        · kernel_rfl
        · kernel_rfl
        · exact fun _ _ _ h => h
        · first
            | exact Or.inr ⟨by rfl, rfl⟩
            | (refine Or.inl ⟨by rfl, fun wq hwq => ?_⟩
               dsimp only at hwq
               go_simp
               first
                 | done
                 | rfl)
        · exact d9
        simp only [Act.put, List.setIfInBounds_toArray, List.set_cons_zero, List.set_cons_succ]
        apply Till.take (i := 7) [7, 10]
        · simp only [List.getElem?_toArray, List.getElem?_cons_succ, List.getElem?_cons_zero]
          rfl
        · kernel_rfl
        · kernel_rfl
        · kernel_rfl
        · kernel_rfl
        · exact fun _ _ _ h => h
        · first
            | exact Or.inr ⟨by rfl, rfl⟩
            | (refine Or.inl ⟨by rfl, fun wq hwq => ?_⟩
               dsimp only at hwq
               go_simp
               first
                 | done
                 | rfl)
        · exact d9
        simp only [Act.put, List.setIfInBounds_toArray, List.set_cons_zero, List.set_cons_succ]
        have cB := blk_cell KB.out 0
        have fB := blk_free KB.out 0
        rw [one0] at cB
        obtain ⟨hD8, _, k8⟩ := store1 KB.out (.slice a_9 L_9 c_9)
        have d99 : (y9_.setCell ⟨y1_.heap.size, 0, none⟩ (.slice a_9 L_9 c_9)).cell? ⟨w.heap.size, 0, none⟩ = some (.slice a0 s0.length cap0) ∧ (y9_.setCell ⟨y1_.heap.size, 0, none⟩ (.slice a_9 L_9 c_9)).cell? ⟨w.heap.size + 1, 0, none⟩ = some (.slice a1 s1.length cap1) := ⟨(blk_cell ((k8.block (w.heap.size) (lt_of_block K_p0'.out) (by have := HBB.out; have := lt_of_block K_p0.out; omega)).trans K_p0'.out) 0).trans (one0 _), (blk_cell ((k8.block (w.heap.size + 1) (lt_of_block K_p1'.out) (by have := HBB.out; have := lt_of_block K_p1.out; omega)).trans K_p1'.out) 0).trans (one0 _)⟩
        apply Till.one (i := 9)
        · kernel_rfl
        · simp only [List.getElem?_toArray, List.getElem?_cons_succ, List.getElem?_cons_zero]
          rfl
        intro K hK
        go_simp
        skip
        refine hK.out _ _ (Or.inr d99) ?_
        clear hK K
        try simp only [Act.put, List.setIfInBounds_toArray, List.set_cons_zero, List.set_cons_succ]
        obtain ⟨W8, hW8⟩ : ∃ W8, W8 = (y9_.setCell ⟨y1_.heap.size, 0, none⟩ (.slice a_9 L_9 c_9)) := ⟨_, rfl⟩
        have hs8 : W8.heap.size = y9_.heap.size := by rw [hW8, World.setCell_size]
        rw [← hW8] at hD8 k8 d99 ⊢
        clear hW8
        apply Till.one (i := 10)
        · kernel_rfl
        · simp only [List.getElem?_toArray, List.getElem?_cons_succ, List.getElem?_cons_zero]
          rfl
        intro K hK
        go_simp
        skip
        refine hK.out _ _ (Or.inl (by rfl)) ?_
        clear hK K
        try simp only [Act.put, List.setIfInBounds_toArray, List.set_cons_zero, List.set_cons_succ]
        refine Till.done (by kernel_rfl) ?_ _
        have hpos : y1_.heap.size < y8_.heap.size ∨ y9_.heap.size ≤ y1_.heap.size := by first | exact Or.inl HBl.out | exact Or.inr (Nat.le_refl _)
        have hT := T_9.out.keptF k8 (fun b hb => by unfold ival at hb; omega)
        have hBl := HC.out.trans (k8.below (B := w3_.heap.size) (fun b hb => by have := HBB.out; omega) HC.out.size)
        have hSh := HSh.out
        have hLo := HLo.out
        have hHi := HHi.out
        have hBB := HBB.out
        have hHi8 : y9_.heap.size ≤ W8.heap.size := by omega
        clear cB fB d99 k8 hs8 hHi
        go_wp2_with fail
        go_meet
        case rel => exact ⟨_, y8_.heap.size, y9_.heap.size, _, _, _, rfl, rfl, hT, hD8, hLo, hSh, hHi8, hpos, hBB, hBl⟩
    ·
      intro K hK
      go_simp
      have hbx : Below y0_.heap.size y0_ (y0_.alloc (.cells #[.slice none 0 0] 39)) := (Below.refl _ _).alloc (Nat.le_refl _) _
      replace A0' := Lib.hid (A0'.out.behind (hbx.mono (Nat.le_trans HB.out.size HC.out.size)))
      replace K_p0' := Lib.hid ((hbx.block (w.heap.size) (lt_of_block K_p0'.out)).trans K_p0'.out)
      replace A1' := Lib.hid (A1'.out.behind (hbx.mono (Nat.le_trans HB.out.size HC.out.size)))
      replace K_p1' := Lib.hid ((hbx.block (w.heap.size + 1) (lt_of_block K_p1'.out)).trans K_p1'.out)
      have HBB : Hid (w3_.heap.size ≤ y0_.heap.size) := Lib.hid HC.out.size
      replace HC := Lib.hid (HC.out.trans (hbx.mono HC.out.size))
      have KB := Lib.hid (heap_alloc_new y0_ (.cells #[.slice none 0 0] 39))
      clear hbx
      have d10 : (y0_.alloc (.cells #[.slice none 0 0] 39)).cell? ⟨w.heap.size, 0, none⟩ = some (.slice a0 s0.length cap0) ∧ (y0_.alloc (.cells #[.slice none 0 0] 39)).cell? ⟨w.heap.size + 1, 0, none⟩ = some (.slice a1 s1.length cap1) := ⟨(blk_cell K_p0'.out 0).trans (one0 _), (blk_cell K_p1'.out 0).trans (one0 _)⟩
      obtain ⟨y10_, hy⟩ : ∃ y, y = (y0_.alloc (.cells #[.slice none 0 0] 39)) := ⟨_, rfl⟩
      rw [← hy] at A0' K_p0' A1' K_p1' HC KB d10  ⊢
      clear hy
      refine hK.out _ _ (Or.inr d10) ?_
      clear hK K
      try simp only [Act.put, List.setIfInBounds_toArray, List.set_cons_zero, List.set_cons_succ]
      apply Till.one (i := 1)
      · kernel_rfl
      · simp only [List.getElem?_toArray, List.getElem?_cons_succ, List.getElem?_cons_zero]
        rfl
      intro K hK
      go_simp
      refine (toDatabase_any A0'.out (Nat.le_trans HB.out.size HC.out.size) (by omega)).mono ?_
      rintro e' y11_ ⟨vt, he, hO, hb⟩
      subst he
      obtain ⟨L_0, hL⟩ : ∃ L, L = (s0).length := ⟨_, rfl⟩
      obtain ⟨a_0, c_0, hv, _⟩ := hO.open
      rw [← hL] at hv
      clear hL
      subst hv
      have hbx : Below y10_.heap.size y10_ y11_ := hb
      replace A0' := Lib.hid (A0'.out.behind (hbx.mono (Nat.le_trans HB.out.size HC.out.size)))
      replace K_p0' := Lib.hid ((hbx.block (w.heap.size) (lt_of_block K_p0'.out)).trans K_p0'.out)
      replace A1' := Lib.hid (A1'.out.behind (hbx.mono (Nat.le_trans HB.out.size HC.out.size)))
      replace K_p1' := Lib.hid ((hbx.block (w.heap.size + 1) (lt_of_block K_p1'.out)).trans K_p1'.out)
      replace KB := Lib.hid ((hbx.block _ (lt_of_block KB.out)).trans KB.out)
      replace HC := Lib.hid (HC.out.trans (hbx.mono HC.out.size))
      have T_0 := Lib.hid hO
      clear hO hb hbx
      have d11 : y11_.cell? ⟨w.heap.size, 0, none⟩ = some (.slice a0 s0.length cap0) ∧ y11_.cell? ⟨w.heap.size + 1, 0, none⟩ = some (.slice a1 s1.length cap1) := ⟨(blk_cell K_p0'.out 0).trans (one0 _), (blk_cell K_p1'.out 0).trans (one0 _)⟩
      refine hK.out _ _ (Or.inr d11) ?_
      clear hK K
      try simp only [Act.put, List.setIfInBounds_toArray, List.set_cons_zero, List.set_cons_succ]
      apply Till.one (i := 3)
      · kernel_rfl
      · simp only [List.getElem?_toArray, List.getElem?_cons_succ, List.getElem?_cons_zero]
        rfl
      intro K hK
      go_simp
      refine (toDatabase_any A1'.out (Nat.le_trans HB.out.size HC.out.size) (by omega)).mono ?_
      rintro e' y12_ ⟨vt, he, hO, hb⟩
      subst he
      obtain ⟨L_1, hL⟩ : ∃ L, L = (s1).length := ⟨_, rfl⟩
      obtain ⟨a_1, c_1, hv, _⟩ := hO.open
      rw [← hL] at hv
      clear hL
      subst hv
      have hbx : Below y11_.heap.size y11_ y12_ := hb
      replace A0' := Lib.hid (A0'.out.behind (hbx.mono (Nat.le_trans HB.out.size HC.out.size)))
      replace K_p0' := Lib.hid ((hbx.block (w.heap.size) (lt_of_block K_p0'.out)).trans K_p0'.out)
      replace A1' := Lib.hid (A1'.out.behind (hbx.mono (Nat.le_trans HB.out.size HC.out.size)))
      replace K_p1' := Lib.hid ((hbx.block (w.heap.size + 1) (lt_of_block K_p1'.out)).trans K_p1'.out)
      replace T_0 := Lib.hid (T_0.out.next hbx)
      replace KB := Lib.hid ((hbx.block _ (lt_of_block KB.out)).trans KB.out)
      replace HC := Lib.hid (HC.out.trans (hbx.mono HC.out.size))
      have T_1 := Lib.hid hO
      clear hO hb hbx
      have d12 : y12_.cell? ⟨w.heap.size, 0, none⟩ = some (.slice a0 s0.length cap0) ∧ y12_.cell? ⟨w.heap.size + 1, 0, none⟩ = some (.slice a1 s1.length cap1) := ⟨(blk_cell K_p0'.out 0).trans (one0 _), (blk_cell K_p1'.out 0).trans (one0 _)⟩
      refine hK.out _ _ (Or.inr d12) ?_
      clear hK K
      try simp only [Act.put, List.setIfInBounds_toArray, List.set_cons_zero, List.set_cons_succ]
      apply Till.one (i := 4)
      · kernel_rfl
      · simp only [List.getElem?_toArray, List.getElem?_cons_succ, List.getElem?_cons_zero]
        rfl
      intro K hK
      go_simp
      refine (spec_aw T_0.out.rd2 T_1.out.rd2 (Nat.le_refl _) (Nat.le_refl _) (by omega) (by omega)).mono ?_
      rintro e' y13_ ⟨vt, he, hO, hb⟩
      subst he
      obtain ⟨L_9, hL⟩ : ∃ L, L = ((xd s0 s1)).length := ⟨_, rfl⟩
      obtain ⟨a_9, c_9, hv, _⟩ := hO.open
      rw [← hL] at hv
      clear hL
      subst hv
      have HLo : Hid (w3_.heap.size ≤ y12_.heap.size) := Lib.hid HC.out.size
      have HBl : Hid (y0_.heap.size < y12_.heap.size) := Lib.hid (lt_of_block KB.out)
      have hbx : Below y12_.heap.size y12_ y13_ := hb
      replace A0' := Lib.hid (A0'.out.behind (hbx.mono (Nat.le_trans HB.out.size HC.out.size)))
      replace K_p0' := Lib.hid ((hbx.block (w.heap.size) (lt_of_block K_p0'.out)).trans K_p0'.out)
      replace A1' := Lib.hid (A1'.out.behind (hbx.mono (Nat.le_trans HB.out.size HC.out.size)))
      replace K_p1' := Lib.hid ((hbx.block (w.heap.size + 1) (lt_of_block K_p1'.out)).trans K_p1'.out)
      replace KB := Lib.hid ((hbx.block _ (lt_of_block KB.out)).trans KB.out)
      replace HC := Lib.hid (HC.out.trans (hbx.mono HC.out.size))
      have HSh : Hid (y12_.heap.size ≤ y13_.heap.size) := Lib.hid hb.size
      have T_9 := Lib.hid hO
      have HHi : Hid (y13_.heap.size ≤ y13_.heap.size) := Lib.hid (Nat.le_refl _)
      clear hO hb hbx
      have d13 : y13_.cell? ⟨w.heap.size, 0, none⟩ = some (.slice a0 s0.length cap0) ∧ y13_.cell? ⟨w.heap.size + 1, 0, none⟩ = some (.slice a1 s1.length cap1) := ⟨(blk_cell K_p0'.out 0).trans (one0 _), (blk_cell K_p1'.out 0).trans (one0 _)⟩
      refine hK.out _ _ (Or.inr d13) ?_
      clear hK K
      try simp only [Act.put, List.setIfInBounds_toArray, List.set_cons_zero, List.set_cons_succ]
      apply Till.take (i := 5) [5, 6, 9, 10]
      · simp only [List.getElem?_toArray, List.getElem?_cons_succ, List.getElem?_cons_zero]
        rfl
      · kernel_rfl
      · kernel_rfl
      · kernel_rfl
      · kernel_rfl
      · exact fun _ _ _ h => h
      · first
          | exact Or.inr ⟨by rfl, rfl⟩
          | (refine Or.inl ⟨by rfl, fun wq hwq => ?_⟩
             dsimp only at hwq
             go_simp
             first
               | done
               | rfl)
      · exact d13
      simp only [Act.put, List.setIfInBounds_toArray, List.set_cons_zero, List.set_cons_succ]
      apply Till.take (i := 6) [6, 9, 10]
      · simp only [List.getElem?_toArray, List.getElem?_cons_succ, List.getElem?_cons_zero]
        rfl
      · kernel_rfl
      · kernel_rfl
      · kernel_rfl
      · kernel_rfl
      · exact fun _ _ _ h => h
      · first
          | exact Or.inr ⟨by rfl, rfl⟩
          | (refine Or.inl ⟨by rfl, fun wq hwq => ?_⟩
             dsimp only at hwq
             go_simp
             first
               | done
               | rfl)
      · exact d13
      simp only [Act.put, List.setIfInBounds_toArray, List.set_cons_zero, List.set_cons_succ]
      apply Till.take (i := 7) [7, 10]
      · simp only [List.getElem?_toArray, List.getElem?_cons_succ, List.getElem?_cons_zero]
        rfl
      · kernel_rfl
      · kernel_rfl
      · kernel_rfl
      · kernel_rfl
      · exact fun _ _ _ h => h
      · first
          | exact Or.inr ⟨by rfl, rfl⟩
          | (refine Or.inl ⟨by rfl, fun wq hwq => ?_⟩
             dsimp only at hwq
             go_simp
             first
               | done
               | rfl)
      · exact d13
      simp only [Act.put, List.setIfInBounds_toArray, List.set_cons_zero, List.set_cons_succ]
      have cB := blk_cell KB.out 0
      have fB := blk_free KB.out 0
      rw [one0] at cB
      obtain ⟨hD8, _, k8⟩ := store1 KB.out (.slice a_9 L_9 c_9)
      have d99 : (y13_.setCell ⟨y0_.heap.size, 0, none⟩ (.slice a_9 L_9 c_9)).cell? ⟨w.heap.size, 0, none⟩ = some (.slice a0 s0.length cap0) ∧ (y13_.setCell ⟨y0_.heap.size, 0, none⟩ (.slice a_9 L_9 c_9)).cell? ⟨w.heap.size + 1, 0, none⟩ = some (.slice a1 s1.length cap1) := ⟨(blk_cell ((k8.block (w.heap.size) (lt_of_block K_p0'.out) (by have := HBB.out; have := lt_of_block K_p0.out; omega)).trans K_p0'.out) 0).trans (one0 _), (blk_cell ((k8.block (w.heap.size + 1) (lt_of_block K_p1'.out) (by have := HBB.out; have := lt_of_block K_p1.out; omega)).trans K_p1'.out) 0).trans (one0 _)⟩
      apply Till.one (i := 9)
      · kernel_rfl
      · simp only [List.getElem?_toArray, List.getElem?_cons_succ, List.getElem?_cons_zero]
        rfl
      intro K hK
      go_simp
      skip
      refine hK.out _ _ (Or.inr d99) ?_
      clear hK K
      try simp only [Act.put, List.setIfInBounds_toArray, List.set_cons_zero, List.set_cons_succ]
      obtain ⟨W8, hW8⟩ : ∃ W8, W8 = (y13_.setCell ⟨y0_.heap.size, 0, none⟩ (.slice a_9 L_9 c_9)) := ⟨_, rfl⟩
      have hs8 : W8.heap.size = y13_.heap.size := by rw [hW8, World.setCell_size]
      rw [← hW8] at hD8 k8 d99 ⊢
      clear hW8
      apply Till.one (i := 10)
      · kernel_rfl
      · simp only [List.getElem?_toArray, List.getElem?_cons_succ, List.getElem?_cons_zero]
        rfl
      intro K hK
      go_simp
      skip
      refine hK.out _ _ (Or.inl (by rfl)) ?_
      clear hK K
      try simp only [Act.put, List.setIfInBounds_toArray, List.set_cons_zero, List.set_cons_succ]
      refine Till.done (by kernel_rfl) ?_ _
      have hpos : y0_.heap.size < y12_.heap.size ∨ y13_.heap.size ≤ y0_.heap.size := by first | exact Or.inl HBl.out | exact Or.inr (Nat.le_refl _)
      have hT := T_9.out.keptF k8 (fun b hb => by unfold ival at hb; omega)
      have hBl := HC.out.trans (k8.below (B := w3_.heap.size) (fun b hb => by have := HBB.out; omega) HC.out.size)
      have hSh := HSh.out
      have hLo := HLo.out
      have hHi := HHi.out
      have hBB := HBB.out
      have hHi8 : y13_.heap.size ≤ W8.heap.size := by omega
      clear cB fB d99 k8 hs8 hHi
      go_wp2_with fail
      go_meet
      case rel => exact ⟨_, y12_.heap.size, y13_.heap.size, _, _, _, rfl, rfl, hT, hD8, hLo, hSh, hHi8, hpos, hBB, hBl⟩
  case rest =>
    obtain ⟨B_w0, lo_w0, hi_w0, a_w0, L_w0, c_w0, rfl, rfl, hO, hK, h1, h2, h3, h4, h5, hb⟩ := hcut
    obtain ⟨w4_, hw⟩ : ∃ x, x = wc := ⟨_, rfl⟩
    rw [← hw] at hO hK h3 hb ⊢
    clear hw
    have D_w0 := Lib.hid (Nat.le_trans HB.out.size h1)
    have S_w0 := Lib.hid h3
    replace A0 := Lib.hid (A0.out.behind (hb.mono HB.out.size))
    replace A1 := Lib.hid (A1.out.behind (hb.mono HB.out.size))
    replace K_p0 := Lib.hid ((hb.block (w.heap.size) (lt_of_block K_p0.out)).trans K_p0.out)
    replace K_p1 := Lib.hid ((hb.block (w.heap.size + 1) (lt_of_block K_p1.out)).trans K_p1.out)
    replace HB := Lib.hid (HB.out.trans (hb.mono HB.out.size))
    clear hb
    have O_w0 := Lib.hid hO
    have K_w0 := Lib.hid hK
    have R_w0 := Lib.hid (lt_of_block K_w0.out)
    clear hO hK h1 h2 h3 h4 h5
    -- ('copy', 'x0', 0, 'Db')
    have k_p0 := blk_cell K_p0.out 0
    rw [one0] at k_p0
    have k_p1 := blk_cell K_p1.out 0
    rw [one0] at k_p1
    have k_w0 := blk_cell K_w0.out 0
    rw [one0] at k_w0
    go_wp2_with fail
    clear k_p0 k_p1 k_w0
    refine (toDatabase_any A0.out HB.out.size (by omega)).mono ?_
    rintro e w5_ ⟨v_x0, he, hO, hb⟩
    subst he
    obtain ⟨L_x0, hL⟩ : ∃ L, L = (s0).length := ⟨_, rfl⟩
    obtain ⟨a_x0, c_x0, hv, _⟩ := hO.open
    rw [← hL] at hv
    clear hL
    subst hv
    have P_w0_x0 := S_w0
    have Q_p0_x0 : Hid (w.heap.size < w4_.heap.size) := Lib.hid (lt_of_block K_p0.out)
    have Q_p1_x0 : Hid (w.heap.size + 1 < w4_.heap.size) := Lib.hid (lt_of_block K_p1.out)
    have Q_w0_x0 : Hid (B_w0 < w4_.heap.size) := Lib.hid (lt_of_block K_w0.out)
    have D_x0 := Lib.hid HB.out.size
    have S_x0 : Hid (w5_.heap.size ≤ w5_.heap.size) := Lib.hid (Nat.le_refl _)
    replace A0 := Lib.hid (A0.out.behind (hb.mono HB.out.size))
    replace A1 := Lib.hid (A1.out.behind (hb.mono HB.out.size))
    replace O_w0 := Lib.hid (O_w0.out.next hb)
    replace S_w0 := Lib.hid (Nat.le_trans S_w0.out hb.size)
    replace K_p0 := Lib.hid ((hb.block (w.heap.size) (lt_of_block K_p0.out)).trans K_p0.out)
    replace K_p1 := Lib.hid ((hb.block (w.heap.size + 1) (lt_of_block K_p1.out)).trans K_p1.out)
    replace K_w0 := Lib.hid ((hb.block (B_w0) (lt_of_block K_w0.out)).trans K_w0.out)
    replace HB := Lib.hid (HB.out.trans (hb.mono HB.out.size))
    clear hb
    have O_x0 := Lib.hid hO
    clear hO
    have R_x0_x0 := S_x0
    have hb : Below w5_.heap.size w5_ (w5_.alloc (.cells #[.slice a_x0 L_x0 c_x0] 39)) := (Below.refl _ _).alloc (Nat.le_refl _) _
    replace A0 := Lib.hid (A0.out.behind (hb.mono HB.out.size))
    replace A1 := Lib.hid (A1.out.behind (hb.mono HB.out.size))
    replace O_w0 := Lib.hid (O_w0.out.next hb)
    replace S_w0 := Lib.hid (Nat.le_trans S_w0.out hb.size)
    replace O_x0 := Lib.hid (O_x0.out.next hb)
    replace S_x0 := Lib.hid (Nat.le_trans S_x0.out hb.size)
    replace K_p0 := Lib.hid ((hb.block (w.heap.size) (lt_of_block K_p0.out)).trans K_p0.out)
    replace K_p1 := Lib.hid ((hb.block (w.heap.size + 1) (lt_of_block K_p1.out)).trans K_p1.out)
    replace K_w0 := Lib.hid ((hb.block (B_w0) (lt_of_block K_w0.out)).trans K_w0.out)
    replace HB := Lib.hid (HB.out.trans (hb.mono HB.out.size))
    clear hb
    have K_x0 := Lib.hid (heap_alloc_new w5_ (.cells #[.slice a_x0 L_x0 c_x0] 39))
    have R_x0 := Lib.hid (lt_of_block K_x0.out)
    have k_p0 := blk_cell K_p0.out 0
    rw [one0] at k_p0
    have k_p1 := blk_cell K_p1.out 0
    rw [one0] at k_p1
    have k_w0 := blk_cell K_w0.out 0
    rw [one0] at k_w0
    have k_x0 := blk_cell K_x0.out 0
    rw [one0] at k_x0
    go_wp2_with fail
    clear k_p0 k_p1 k_w0 k_x0
    obtain ⟨w6_, hw⟩ : ∃ x, x = w5_.alloc (.cells #[.slice a_x0 L_x0 c_x0] 39) := ⟨_, rfl⟩
    rw [← hw] at HB A0 A1 O_w0 S_w0 O_x0 S_x0 K_p0 K_p1 K_w0 K_x0 R_x0 ⊢
    clear hw
    -- ('copy', 'x1', 1, 'Db')
    refine (toDatabase_any A1.out HB.out.size (by omega)).mono ?_
    rintro e w7_ ⟨v_x1, he, hO, hb⟩
    subst he
    obtain ⟨L_x1, hL⟩ : ∃ L, L = (s1).length := ⟨_, rfl⟩
    obtain ⟨a_x1, c_x1, hv, _⟩ := hO.open
    rw [← hL] at hv
    clear hL
    subst hv
    have P_w0_x1 := S_w0
    have P_x0_x1 := S_x0
    have Q_p0_x1 : Hid (w.heap.size < w6_.heap.size) := Lib.hid (lt_of_block K_p0.out)
    have Q_p1_x1 : Hid (w.heap.size + 1 < w6_.heap.size) := Lib.hid (lt_of_block K_p1.out)
    have Q_w0_x1 : Hid (B_w0 < w6_.heap.size) := Lib.hid (lt_of_block K_w0.out)
    have Q_x0_x1 : Hid (w5_.heap.size < w6_.heap.size) := Lib.hid (lt_of_block K_x0.out)
    have D_x1 := Lib.hid HB.out.size
    have S_x1 : Hid (w7_.heap.size ≤ w7_.heap.size) := Lib.hid (Nat.le_refl _)
    replace A0 := Lib.hid (A0.out.behind (hb.mono HB.out.size))
    replace A1 := Lib.hid (A1.out.behind (hb.mono HB.out.size))
    replace O_w0 := Lib.hid (O_w0.out.next hb)
    replace S_w0 := Lib.hid (Nat.le_trans S_w0.out hb.size)
    replace O_x0 := Lib.hid (O_x0.out.next hb)
    replace S_x0 := Lib.hid (Nat.le_trans S_x0.out hb.size)
    replace K_p0 := Lib.hid ((hb.block (w.heap.size) (lt_of_block K_p0.out)).trans K_p0.out)
    replace K_p1 := Lib.hid ((hb.block (w.heap.size + 1) (lt_of_block K_p1.out)).trans K_p1.out)
    replace K_w0 := Lib.hid ((hb.block (B_w0) (lt_of_block K_w0.out)).trans K_w0.out)
    replace K_x0 := Lib.hid ((hb.block (w5_.heap.size) (lt_of_block K_x0.out)).trans K_x0.out)
    replace HB := Lib.hid (HB.out.trans (hb.mono HB.out.size))
    clear hb
    have O_x1 := Lib.hid hO
    clear hO
    have R_x0_x1 := S_x0
    have R_x1_x1 := S_x1
    have hb : Below w7_.heap.size w7_ (w7_.alloc (.cells #[.slice a_x1 L_x1 c_x1] 39)) := (Below.refl _ _).alloc (Nat.le_refl _) _
    replace A0 := Lib.hid (A0.out.behind (hb.mono HB.out.size))
    replace A1 := Lib.hid (A1.out.behind (hb.mono HB.out.size))
    replace O_w0 := Lib.hid (O_w0.out.next hb)
    replace S_w0 := Lib.hid (Nat.le_trans S_w0.out hb.size)
    replace O_x0 := Lib.hid (O_x0.out.next hb)
    replace S_x0 := Lib.hid (Nat.le_trans S_x0.out hb.size)
    replace O_x1 := Lib.hid (O_x1.out.next hb)
    replace S_x1 := Lib.hid (Nat.le_trans S_x1.out hb.size)
    replace K_p0 := Lib.hid ((hb.block (w.heap.size) (lt_of_block K_p0.out)).trans K_p0.out)
    replace K_p1 := Lib.hid ((hb.block (w.heap.size + 1) (lt_of_block K_p1.out)).trans K_p1.out)
    replace K_w0 := Lib.hid ((hb.block (B_w0) (lt_of_block K_w0.out)).trans K_w0.out)
    replace K_x0 := Lib.hid ((hb.block (w5_.heap.size) (lt_of_block K_x0.out)).trans K_x0.out)
    replace HB := Lib.hid (HB.out.trans (hb.mono HB.out.size))
    clear hb
    have K_x1 := Lib.hid (heap_alloc_new w7_ (.cells #[.slice a_x1 L_x1 c_x1] 39))
    have R_x1 := Lib.hid (lt_of_block K_x1.out)
    have k_p0 := blk_cell K_p0.out 0
    rw [one0] at k_p0
    have k_p1 := blk_cell K_p1.out 0
    rw [one0] at k_p1
    have k_w0 := blk_cell K_w0.out 0
    rw [one0] at k_w0
    have k_x0 := blk_cell K_x0.out 0
    rw [one0] at k_x0
    have k_x1 := blk_cell K_x1.out 0
    rw [one0] at k_x1
    go_wp2_with fail
    clear k_p0 k_p1 k_w0 k_x0 k_x1
    obtain ⟨w8_, hw⟩ : ∃ x, x = w7_.alloc (.cells #[.slice a_x1 L_x1 c_x1] 39) := ⟨_, rfl⟩
    rw [← hw] at HB A0 A1 O_w0 S_w0 O_x0 S_x0 O_x1 S_x1 K_p0 K_p1 K_w0 K_x0 K_x1 R_x1 ⊢
    clear hw
    -- ('call', 'impl', 'XorDatabases', [('own', 'x0'), ('own', 'x1')], ['g0', 'g1'])
    refine (impl_aw O_x0.out.rd2 O_x1.out.rd2 (Nat.le_refl _) (Nat.le_refl _) (by omega) (by omega)).mono ?_
    rintro e w9_ ⟨v_g0, he, hO, hb⟩
    subst he
    obtain ⟨L_g0, hL⟩ : ∃ L, L = ((xd s0 s1)).length := ⟨_, rfl⟩
    obtain ⟨a_g0, c_g0, hv, _⟩ := hO.open
    rw [← hL] at hv
    clear hL
    subst hv
    have P_w0_g0 := S_w0
    have P_x0_g0 := S_x0
    have P_x1_g0 := S_x1
    have Q_p0_g0 : Hid (w.heap.size < w8_.heap.size) := Lib.hid (lt_of_block K_p0.out)
    have Q_p1_g0 : Hid (w.heap.size + 1 < w8_.heap.size) := Lib.hid (lt_of_block K_p1.out)
    have Q_w0_g0 : Hid (B_w0 < w8_.heap.size) := Lib.hid (lt_of_block K_w0.out)
    have Q_x0_g0 : Hid (w5_.heap.size < w8_.heap.size) := Lib.hid (lt_of_block K_x0.out)
    have Q_x1_g0 : Hid (w7_.heap.size < w8_.heap.size) := Lib.hid (lt_of_block K_x1.out)
    have D_g0 := Lib.hid HB.out.size
    have S_g0 : Hid (w9_.heap.size ≤ w9_.heap.size) := Lib.hid (Nat.le_refl _)
    replace A0 := Lib.hid (A0.out.behind (hb.mono HB.out.size))
    replace A1 := Lib.hid (A1.out.behind (hb.mono HB.out.size))
    replace O_w0 := Lib.hid (O_w0.out.next hb)
    replace S_w0 := Lib.hid (Nat.le_trans S_w0.out hb.size)
    replace O_x0 := Lib.hid (O_x0.out.next hb)
    replace S_x0 := Lib.hid (Nat.le_trans S_x0.out hb.size)
    replace O_x1 := Lib.hid (O_x1.out.next hb)
    replace S_x1 := Lib.hid (Nat.le_trans S_x1.out hb.size)
    replace K_p0 := Lib.hid ((hb.block (w.heap.size) (lt_of_block K_p0.out)).trans K_p0.out)
    replace K_p1 := Lib.hid ((hb.block (w.heap.size + 1) (lt_of_block K_p1.out)).trans K_p1.out)
    replace K_w0 := Lib.hid ((hb.block (B_w0) (lt_of_block K_w0.out)).trans K_w0.out)
    replace K_x0 := Lib.hid ((hb.block (w5_.heap.size) (lt_of_block K_x0.out)).trans K_x0.out)
    replace K_x1 := Lib.hid ((hb.block (w7_.heap.size) (lt_of_block K_x1.out)).trans K_x1.out)
    replace HB := Lib.hid (HB.out.trans (hb.mono HB.out.size))
    clear hb
    have O_g0 := Lib.hid hO
    clear hO
    have R_x0_g0 := S_x0
    have R_x1_g0 := S_x1
    have R_g0_g0 := S_g0
    have hb : Below w9_.heap.size w9_ (w9_.alloc (.cells #[.slice a_g0 L_g0 c_g0] 39)) := (Below.refl _ _).alloc (Nat.le_refl _) _
    replace A0 := Lib.hid (A0.out.behind (hb.mono HB.out.size))
    replace A1 := Lib.hid (A1.out.behind (hb.mono HB.out.size))
    replace O_w0 := Lib.hid (O_w0.out.next hb)
    replace S_w0 := Lib.hid (Nat.le_trans S_w0.out hb.size)
    replace O_x0 := Lib.hid (O_x0.out.next hb)
    replace S_x0 := Lib.hid (Nat.le_trans S_x0.out hb.size)
    replace O_x1 := Lib.hid (O_x1.out.next hb)
    replace S_x1 := Lib.hid (Nat.le_trans S_x1.out hb.size)
    replace O_g0 := Lib.hid (O_g0.out.next hb)
    replace S_g0 := Lib.hid (Nat.le_trans S_g0.out hb.size)
    replace K_p0 := Lib.hid ((hb.block (w.heap.size) (lt_of_block K_p0.out)).trans K_p0.out)
    replace K_p1 := Lib.hid ((hb.block (w.heap.size + 1) (lt_of_block K_p1.out)).trans K_p1.out)
    replace K_w0 := Lib.hid ((hb.block (B_w0) (lt_of_block K_w0.out)).trans K_w0.out)
    replace K_x0 := Lib.hid ((hb.block (w5_.heap.size) (lt_of_block K_x0.out)).trans K_x0.out)
    replace K_x1 := Lib.hid ((hb.block (w7_.heap.size) (lt_of_block K_x1.out)).trans K_x1.out)
    replace HB := Lib.hid (HB.out.trans (hb.mono HB.out.size))
    clear hb
    have K_g0 := Lib.hid (heap_alloc_new w9_ (.cells #[.slice a_g0 L_g0 c_g0] 39))
    have R_g0 := Lib.hid (lt_of_block K_g0.out)
    have k_p0 := blk_cell K_p0.out 0
    rw [one0] at k_p0
    have k_p1 := blk_cell K_p1.out 0
    rw [one0] at k_p1
    have k_w0 := blk_cell K_w0.out 0
    rw [one0] at k_w0
    have k_x0 := blk_cell K_x0.out 0
    rw [one0] at k_x0
    have k_x1 := blk_cell K_x1.out 0
    rw [one0] at k_x1
    have k_g0 := blk_cell K_g0.out 0
    rw [one0] at k_g0
    go_wp2_with fail
    clear k_p0 k_p1 k_w0 k_x0 k_x1 k_g0
    obtain ⟨w10_, hw⟩ : ∃ x, x = w9_.alloc (.cells #[.slice a_g0 L_g0 c_g0] 39) := ⟨_, rfl⟩
    rw [← hw] at HB A0 A1 O_w0 S_w0 O_x0 S_x0 O_x1 S_x1 O_g0 S_g0 K_p0 K_p1 K_w0 K_x0 K_x1 K_g0 R_g0 ⊢
    clear hw
    -- ('eq', 'Db', ('own', 'g0'), ('own', 'w0'))
    refine (eqDatabase_same O_g0.out.rd2 O_w0.out.rd2 (Nat.le_refl _) (Nat.le_refl _)).mono ?_
    rintro e w11_ ⟨he, hb⟩
    subst he
    replace A0 := Lib.hid (A0.out.behind (hb.mono HB.out.size))
    replace A1 := Lib.hid (A1.out.behind (hb.mono HB.out.size))
    replace O_w0 := Lib.hid (O_w0.out.next hb)
    replace S_w0 := Lib.hid (Nat.le_trans S_w0.out hb.size)
    replace O_x0 := Lib.hid (O_x0.out.next hb)
    replace S_x0 := Lib.hid (Nat.le_trans S_x0.out hb.size)
    replace O_x1 := Lib.hid (O_x1.out.next hb)
    replace S_x1 := Lib.hid (Nat.le_trans S_x1.out hb.size)
    replace O_g0 := Lib.hid (O_g0.out.next hb)
    replace S_g0 := Lib.hid (Nat.le_trans S_g0.out hb.size)
    replace K_p0 := Lib.hid ((hb.block (w.heap.size) (lt_of_block K_p0.out)).trans K_p0.out)
    replace K_p1 := Lib.hid ((hb.block (w.heap.size + 1) (lt_of_block K_p1.out)).trans K_p1.out)
    replace K_w0 := Lib.hid ((hb.block (B_w0) (lt_of_block K_w0.out)).trans K_w0.out)
    replace K_x0 := Lib.hid ((hb.block (w5_.heap.size) (lt_of_block K_x0.out)).trans K_x0.out)
    replace K_x1 := Lib.hid ((hb.block (w7_.heap.size) (lt_of_block K_x1.out)).trans K_x1.out)
    replace K_g0 := Lib.hid ((hb.block (w9_.heap.size) (lt_of_block K_g0.out)).trans K_g0.out)
    replace HB := Lib.hid (HB.out.trans (hb.mono HB.out.size))
    clear hb
    -- ('eq', 'Db', ('own', 'x0'), ('copy', 0, 'Db'))
    have k_p0 := blk_cell K_p0.out 0
    rw [one0] at k_p0
    have k_p1 := blk_cell K_p1.out 0
    rw [one0] at k_p1
    have k_w0 := blk_cell K_w0.out 0
    rw [one0] at k_w0
    have k_x0 := blk_cell K_x0.out 0
    rw [one0] at k_x0
    have k_x1 := blk_cell K_x1.out 0
    rw [one0] at k_x1
    have k_g0 := blk_cell K_g0.out 0
    rw [one0] at k_g0
    go_wp2_with fail
    clear k_p0 k_p1 k_w0 k_x0 k_x1 k_g0
    have hb : Below w11_.heap.size w11_ w11_.drew := (Below.refl _ _).drew
    replace A0 := Lib.hid (A0.out.behind (hb.mono HB.out.size))
    replace A1 := Lib.hid (A1.out.behind (hb.mono HB.out.size))
    replace O_w0 := Lib.hid (O_w0.out.next hb)
    replace S_w0 := Lib.hid (Nat.le_trans S_w0.out hb.size)
    replace O_x0 := Lib.hid (O_x0.out.next hb)
    replace S_x0 := Lib.hid (Nat.le_trans S_x0.out hb.size)
    replace O_x1 := Lib.hid (O_x1.out.next hb)
    replace S_x1 := Lib.hid (Nat.le_trans S_x1.out hb.size)
    replace O_g0 := Lib.hid (O_g0.out.next hb)
    replace S_g0 := Lib.hid (Nat.le_trans S_g0.out hb.size)
    replace K_p0 := Lib.hid ((hb.block (w.heap.size) (lt_of_block K_p0.out)).trans K_p0.out)
    replace K_p1 := Lib.hid ((hb.block (w.heap.size + 1) (lt_of_block K_p1.out)).trans K_p1.out)
    replace K_w0 := Lib.hid ((hb.block (B_w0) (lt_of_block K_w0.out)).trans K_w0.out)
    replace K_x0 := Lib.hid ((hb.block (w5_.heap.size) (lt_of_block K_x0.out)).trans K_x0.out)
    replace K_x1 := Lib.hid ((hb.block (w7_.heap.size) (lt_of_block K_x1.out)).trans K_x1.out)
    replace K_g0 := Lib.hid ((hb.block (w9_.heap.size) (lt_of_block K_g0.out)).trans K_g0.out)
    replace HB := Lib.hid (HB.out.trans (hb.mono HB.out.size))
    clear hb
    have d0 : w11_.drew.cell? ⟨w5_.heap.size, 0, none⟩ = some (.slice a_x0 L_x0 c_x0) ∧ w11_.drew.cell? ⟨w.heap.size, 0, none⟩ = some (.slice a0 s0.length cap0) := ⟨(blk_cell K_x0.out 0).trans (one0 _), (blk_cell K_p0.out 0).trans (one0 _)⟩
    go_region_held3 (fun w' => w'.cell? ⟨w5_.heap.size, 0, none⟩ = some (.slice a_x0 L_x0 c_x0) ∧ w'.cell? ⟨w.heap.size, 0, none⟩ = some (.slice a0 s0.length cap0)) (first | assumption | go_keep) ((first
      | (go_at_call 24
         go_loud (refine (toDatabase_any A0.out HB.out.size (by omega)).mono ?_
                  rintro e w12_ ⟨v_t1, he, hO, hb⟩
                  subst he
                  obtain ⟨L_t1, hL⟩ : ∃ L, L = (s0).length := ⟨_, rfl⟩
                  obtain ⟨a_t1, c_t1, hv, _⟩ := hO.open
                  rw [← hL] at hv
                  clear hL
                  subst hv
                  have P_x0_t1 := S_x0
                  have P_x1_t1 := S_x1
                  have P_g0_t1 := S_g0
                  have D_t1 := Lib.hid HB.out.size
                  have S_t1 : Hid (w12_.heap.size ≤ w12_.heap.size) := Lib.hid (Nat.le_refl _)
                  replace A0 := Lib.hid (A0.out.behind (hb.mono HB.out.size))
                  replace A1 := Lib.hid (A1.out.behind (hb.mono HB.out.size))
                  replace O_w0 := Lib.hid (O_w0.out.next hb)
                  replace S_w0 := Lib.hid (Nat.le_trans S_w0.out hb.size)
                  replace O_x0 := Lib.hid (O_x0.out.next hb)
                  replace S_x0 := Lib.hid (Nat.le_trans S_x0.out hb.size)
                  replace O_x1 := Lib.hid (O_x1.out.next hb)
                  replace S_x1 := Lib.hid (Nat.le_trans S_x1.out hb.size)
                  replace O_g0 := Lib.hid (O_g0.out.next hb)
                  replace S_g0 := Lib.hid (Nat.le_trans S_g0.out hb.size)
                  replace K_p0 := Lib.hid ((hb.block (w.heap.size) (lt_of_block K_p0.out)).trans K_p0.out)
                  replace K_p1 := Lib.hid ((hb.block (w.heap.size + 1) (lt_of_block K_p1.out)).trans K_p1.out)
                  replace K_w0 := Lib.hid ((hb.block (B_w0) (lt_of_block K_w0.out)).trans K_w0.out)
                  replace K_x0 := Lib.hid ((hb.block (w5_.heap.size) (lt_of_block K_x0.out)).trans K_x0.out)
                  replace K_x1 := Lib.hid ((hb.block (w7_.heap.size) (lt_of_block K_x1.out)).trans K_x1.out)
                  replace K_g0 := Lib.hid ((hb.block (w9_.heap.size) (lt_of_block K_g0.out)).trans K_g0.out)
                  replace HB := Lib.hid (HB.out.trans (hb.mono HB.out.size))
                  clear hb
                  have O_t1 := Lib.hid hO
                  clear hO
                  have d1 : w12_.cell? ⟨w5_.heap.size, 0, none⟩ = some (.slice a_x0 L_x0 c_x0) ∧ w12_.cell? ⟨w.heap.size, 0, none⟩ = some (.slice a0 s0.length cap0) := ⟨(blk_cell K_x0.out 0).trans (one0 _), (blk_cell K_p0.out 0).trans (one0 _)⟩))
      | (go_at_call 26
         go_loud (refine (eqDatabase_same O_x0.out.rd2 O_t1.out.rd2 (Nat.le_refl _) (Nat.le_refl _)).mono ?_
                  rintro e w13_ ⟨he, hb⟩
                  subst he
                  replace A0 := Lib.hid (A0.out.behind (hb.mono HB.out.size))
                  replace A1 := Lib.hid (A1.out.behind (hb.mono HB.out.size))
                  replace O_w0 := Lib.hid (O_w0.out.next hb)
                  replace S_w0 := Lib.hid (Nat.le_trans S_w0.out hb.size)
                  replace O_x0 := Lib.hid (O_x0.out.next hb)
                  replace S_x0 := Lib.hid (Nat.le_trans S_x0.out hb.size)
                  replace O_x1 := Lib.hid (O_x1.out.next hb)
                  replace S_x1 := Lib.hid (Nat.le_trans S_x1.out hb.size)
                  replace O_g0 := Lib.hid (O_g0.out.next hb)
                  replace S_g0 := Lib.hid (Nat.le_trans S_g0.out hb.size)
                  replace O_t1 := Lib.hid (O_t1.out.next hb)
                  replace S_t1 := Lib.hid (Nat.le_trans S_t1.out hb.size)
                  replace K_p0 := Lib.hid ((hb.block (w.heap.size) (lt_of_block K_p0.out)).trans K_p0.out)
                  replace K_p1 := Lib.hid ((hb.block (w.heap.size + 1) (lt_of_block K_p1.out)).trans K_p1.out)
                  replace K_w0 := Lib.hid ((hb.block (B_w0) (lt_of_block K_w0.out)).trans K_w0.out)
                  replace K_x0 := Lib.hid ((hb.block (w5_.heap.size) (lt_of_block K_x0.out)).trans K_x0.out)
                  replace K_x1 := Lib.hid ((hb.block (w7_.heap.size) (lt_of_block K_x1.out)).trans K_x1.out)
                  replace K_g0 := Lib.hid ((hb.block (w9_.heap.size) (lt_of_block K_g0.out)).trans K_g0.out)
                  replace HB := Lib.hid (HB.out.trans (hb.mono HB.out.size))
                  clear hb
                  have d2 : w13_.cell? ⟨w5_.heap.size, 0, none⟩ = some (.slice a_x0 L_x0 c_x0) ∧ w13_.cell? ⟨w.heap.size, 0, none⟩ = some (.slice a0 s0.length cap0) := ⟨(blk_cell K_x0.out 0).trans (one0 _), (blk_cell K_p0.out 0).trans (one0 _)⟩))))
    clear d0 d1 d2
    clear O_t1 S_t1 D_t1
    clear P_x0_t1
    clear P_x1_t1
    clear P_g0_t1
    -- ('eq', 'Db', ('own', 'x1'), ('copy', 1, 'Db'))
    have k_p0 := blk_cell K_p0.out 0
    rw [one0] at k_p0
    have k_p1 := blk_cell K_p1.out 0
    rw [one0] at k_p1
    have k_w0 := blk_cell K_w0.out 0
    rw [one0] at k_w0
    have k_x0 := blk_cell K_x0.out 0
    rw [one0] at k_x0
    have k_x1 := blk_cell K_x1.out 0
    rw [one0] at k_x1
    have k_g0 := blk_cell K_g0.out 0
    rw [one0] at k_g0
    go_wp2_with fail
    clear k_p0 k_p1 k_w0 k_x0 k_x1 k_g0
    have hb : Below w13_.heap.size w13_ w13_.drew := (Below.refl _ _).drew
    replace A0 := Lib.hid (A0.out.behind (hb.mono HB.out.size))
    replace A1 := Lib.hid (A1.out.behind (hb.mono HB.out.size))
    replace O_w0 := Lib.hid (O_w0.out.next hb)
    replace S_w0 := Lib.hid (Nat.le_trans S_w0.out hb.size)
    replace O_x0 := Lib.hid (O_x0.out.next hb)
    replace S_x0 := Lib.hid (Nat.le_trans S_x0.out hb.size)
    replace O_x1 := Lib.hid (O_x1.out.next hb)
    replace S_x1 := Lib.hid (Nat.le_trans S_x1.out hb.size)
    replace O_g0 := Lib.hid (O_g0.out.next hb)
    replace S_g0 := Lib.hid (Nat.le_trans S_g0.out hb.size)
    replace K_p0 := Lib.hid ((hb.block (w.heap.size) (lt_of_block K_p0.out)).trans K_p0.out)
    replace K_p1 := Lib.hid ((hb.block (w.heap.size + 1) (lt_of_block K_p1.out)).trans K_p1.out)
    replace K_w0 := Lib.hid ((hb.block (B_w0) (lt_of_block K_w0.out)).trans K_w0.out)
    replace K_x0 := Lib.hid ((hb.block (w5_.heap.size) (lt_of_block K_x0.out)).trans K_x0.out)
    replace K_x1 := Lib.hid ((hb.block (w7_.heap.size) (lt_of_block K_x1.out)).trans K_x1.out)
    replace K_g0 := Lib.hid ((hb.block (w9_.heap.size) (lt_of_block K_g0.out)).trans K_g0.out)
    replace HB := Lib.hid (HB.out.trans (hb.mono HB.out.size))
    clear hb
    have d0 : w13_.drew.cell? ⟨w7_.heap.size, 0, none⟩ = some (.slice a_x1 L_x1 c_x1) ∧ w13_.drew.cell? ⟨w.heap.size + 1, 0, none⟩ = some (.slice a1 s1.length cap1) := ⟨(blk_cell K_x1.out 0).trans (one0 _), (blk_cell K_p1.out 0).trans (one0 _)⟩
    go_region_held3 (fun w' => w'.cell? ⟨w7_.heap.size, 0, none⟩ = some (.slice a_x1 L_x1 c_x1) ∧ w'.cell? ⟨w.heap.size + 1, 0, none⟩ = some (.slice a1 s1.length cap1)) (first | assumption | go_keep) ((first
      | (go_at_call 24
         go_loud (refine (toDatabase_any A1.out HB.out.size (by omega)).mono ?_
                  rintro e w14_ ⟨v_t2, he, hO, hb⟩
                  subst he
                  obtain ⟨L_t2, hL⟩ : ∃ L, L = (s1).length := ⟨_, rfl⟩
                  obtain ⟨a_t2, c_t2, hv, _⟩ := hO.open
                  rw [← hL] at hv
                  clear hL
                  subst hv
                  have P_x0_t2 := S_x0
                  have P_x1_t2 := S_x1
                  have P_g0_t2 := S_g0
                  have D_t2 := Lib.hid HB.out.size
                  have S_t2 : Hid (w14_.heap.size ≤ w14_.heap.size) := Lib.hid (Nat.le_refl _)
                  replace A0 := Lib.hid (A0.out.behind (hb.mono HB.out.size))
                  replace A1 := Lib.hid (A1.out.behind (hb.mono HB.out.size))
                  replace O_w0 := Lib.hid (O_w0.out.next hb)
                  replace S_w0 := Lib.hid (Nat.le_trans S_w0.out hb.size)
                  replace O_x0 := Lib.hid (O_x0.out.next hb)
                  replace S_x0 := Lib.hid (Nat.le_trans S_x0.out hb.size)
                  replace O_x1 := Lib.hid (O_x1.out.next hb)
                  replace S_x1 := Lib.hid (Nat.le_trans S_x1.out hb.size)
                  replace O_g0 := Lib.hid (O_g0.out.next hb)
                  replace S_g0 := Lib.hid (Nat.le_trans S_g0.out hb.size)
                  replace K_p0 := Lib.hid ((hb.block (w.heap.size) (lt_of_block K_p0.out)).trans K_p0.out)
                  replace K_p1 := Lib.hid ((hb.block (w.heap.size + 1) (lt_of_block K_p1.out)).trans K_p1.out)
                  replace K_w0 := Lib.hid ((hb.block (B_w0) (lt_of_block K_w0.out)).trans K_w0.out)
                  replace K_x0 := Lib.hid ((hb.block (w5_.heap.size) (lt_of_block K_x0.out)).trans K_x0.out)
                  replace K_x1 := Lib.hid ((hb.block (w7_.heap.size) (lt_of_block K_x1.out)).trans K_x1.out)
                  replace K_g0 := Lib.hid ((hb.block (w9_.heap.size) (lt_of_block K_g0.out)).trans K_g0.out)
                  replace HB := Lib.hid (HB.out.trans (hb.mono HB.out.size))
                  clear hb
                  have O_t2 := Lib.hid hO
                  clear hO
                  have d1 : w14_.cell? ⟨w7_.heap.size, 0, none⟩ = some (.slice a_x1 L_x1 c_x1) ∧ w14_.cell? ⟨w.heap.size + 1, 0, none⟩ = some (.slice a1 s1.length cap1) := ⟨(blk_cell K_x1.out 0).trans (one0 _), (blk_cell K_p1.out 0).trans (one0 _)⟩))
      | (go_at_call 26
         go_loud (refine (eqDatabase_same O_x1.out.rd2 O_t2.out.rd2 (Nat.le_refl _) (Nat.le_refl _)).mono ?_
                  rintro e w15_ ⟨he, hb⟩
                  subst he
                  replace A0 := Lib.hid (A0.out.behind (hb.mono HB.out.size))
                  replace A1 := Lib.hid (A1.out.behind (hb.mono HB.out.size))
                  replace O_w0 := Lib.hid (O_w0.out.next hb)
                  replace S_w0 := Lib.hid (Nat.le_trans S_w0.out hb.size)
                  replace O_x0 := Lib.hid (O_x0.out.next hb)
                  replace S_x0 := Lib.hid (Nat.le_trans S_x0.out hb.size)
                  replace O_x1 := Lib.hid (O_x1.out.next hb)
                  replace S_x1 := Lib.hid (Nat.le_trans S_x1.out hb.size)
                  replace O_g0 := Lib.hid (O_g0.out.next hb)
                  replace S_g0 := Lib.hid (Nat.le_trans S_g0.out hb.size)
                  replace O_t2 := Lib.hid (O_t2.out.next hb)
                  replace S_t2 := Lib.hid (Nat.le_trans S_t2.out hb.size)
                  replace K_p0 := Lib.hid ((hb.block (w.heap.size) (lt_of_block K_p0.out)).trans K_p0.out)
                  replace K_p1 := Lib.hid ((hb.block (w.heap.size + 1) (lt_of_block K_p1.out)).trans K_p1.out)
                  replace K_w0 := Lib.hid ((hb.block (B_w0) (lt_of_block K_w0.out)).trans K_w0.out)
                  replace K_x0 := Lib.hid ((hb.block (w5_.heap.size) (lt_of_block K_x0.out)).trans K_x0.out)
                  replace K_x1 := Lib.hid ((hb.block (w7_.heap.size) (lt_of_block K_x1.out)).trans K_x1.out)
                  replace K_g0 := Lib.hid ((hb.block (w9_.heap.size) (lt_of_block K_g0.out)).trans K_g0.out)
                  replace HB := Lib.hid (HB.out.trans (hb.mono HB.out.size))
                  clear hb
                  have d2 : w15_.cell? ⟨w7_.heap.size, 0, none⟩ = some (.slice a_x1 L_x1 c_x1) ∧ w15_.cell? ⟨w.heap.size + 1, 0, none⟩ = some (.slice a1 s1.length cap1) := ⟨(blk_cell K_x1.out 0).trans (one0 _), (blk_cell K_p1.out 0).trans (one0 _)⟩))))
    clear d0 d1 d2
    clear O_t2 S_t2 D_t2
    clear P_x0_t2
    clear P_x1_t2
    clear P_g0_t2
    -- ('set', 'k', '1')
    -- ('mark', 'k', 'Db', 'x0', 'k')
    have hF10 : fl (s0) ≤ 1099511627776 := by have := fl_tot s0; omega
    obtain ⟨K10, hK10⟩ : ∃ K : Int, K = 1 + ((fl (s0) : Nat) : Int) := ⟨_, rfl⟩
    have k_p0 := blk_cell K_p0.out 0
    rw [one0] at k_p0
    have k_p1 := blk_cell K_p1.out 0
    rw [one0] at k_p1
    have k_w0 := blk_cell K_w0.out 0
    rw [one0] at k_w0
    have k_x0 := blk_cell K_x0.out 0
    rw [one0] at k_x0
    have k_x1 := blk_cell K_x1.out 0
    rw [one0] at k_x1
    have k_g0 := blk_cell K_g0.out 0
    rw [one0] at k_g0
    go_wp2_with fail
    clear k_p0 k_p1 k_w0 k_x0 k_x1 k_g0
    refine (markDatabase_any (k0 := 1) O_x0.out (by omega) (by omega)).mono ?_
    rintro e w16_ ⟨he, hO, hG⟩
    rw [← hK10] at he
    subst he
    have hb := hG.below (B := w.heap.size) (fun b hb => Nat.le_trans D_x0.out hb.1) HB.out.size
    replace A0 := Lib.hid (A0.out.behind hb)
    replace A1 := Lib.hid (A1.out.behind hb)
    replace O_w0 := Lib.hid (O_w0.out.keptF hG (ival_disj (.inl P_w0_x0.out)))
    replace S_w0 := Lib.hid (Nat.le_trans S_w0.out hb.size)
    replace O_x1 := Lib.hid (O_x1.out.keptF hG (ival_disj (.inr P_x0_x1.out)))
    replace S_x1 := Lib.hid (Nat.le_trans S_x1.out hb.size)
    replace O_g0 := Lib.hid (O_g0.out.keptF hG (ival_disj (.inr P_x0_g0.out)))
    replace S_g0 := Lib.hid (Nat.le_trans S_g0.out hb.size)
    replace K_p0 := Lib.hid ((hG.block (w.heap.size) (lt_of_block K_p0.out) (fun h => by have := Q_p0_x0.out; unfold ival at h; omega)).trans K_p0.out)
    replace K_p1 := Lib.hid ((hG.block (w.heap.size + 1) (lt_of_block K_p1.out) (fun h => by have := Q_p1_x0.out; unfold ival at h; omega)).trans K_p1.out)
    replace K_w0 := Lib.hid ((hG.block (B_w0) (lt_of_block K_w0.out) (fun h => by have := Q_w0_x0.out; unfold ival at h; omega)).trans K_w0.out)
    replace K_x0 := Lib.hid ((hG.block (w5_.heap.size) (lt_of_block K_x0.out) (fun h => by have := R_x0_x0.out; unfold ival at h; omega)).trans K_x0.out)
    replace K_x1 := Lib.hid ((hG.block (w7_.heap.size) (lt_of_block K_x1.out) (fun h => by have := R_x0_x1.out; unfold ival at h; omega)).trans K_x1.out)
    replace K_g0 := Lib.hid ((hG.block (w9_.heap.size) (lt_of_block K_g0.out) (fun h => by have := R_x0_g0.out; unfold ival at h; omega)).trans K_g0.out)
    replace O_x0 := Lib.hid hO
    replace S_x0 := Lib.hid (Nat.le_trans S_x0.out hb.size)
    replace HB := Lib.hid (HB.out.trans hb)
    clear hb hO hG
    have lK10 : 0 ≤ K10 ∧ K10 ≤ 1099511627777 := by omega
    have dK10 : decide (K10 < 0) = false := by simp; omega
    have HK10 := Lib.hid hK10
    clear hK10 hF10
    clear O_x0 S_x0 D_x0
    clear P_w0_x0
    clear P_x0_x1
    clear P_x0_g0
    clear K_x0 R_x0
    -- ('mark', 'k', 'Db', 'x1', 'k')
    have hF11 : fl (s1) ≤ 1099511627776 := by have := fl_tot s1; omega
    obtain ⟨K11, hK11⟩ : ∃ K : Int, K = K10 + ((fl (s1) : Nat) : Int) := ⟨_, rfl⟩
    have k_p0 := blk_cell K_p0.out 0
    rw [one0] at k_p0
    have k_p1 := blk_cell K_p1.out 0
    rw [one0] at k_p1
    have k_w0 := blk_cell K_w0.out 0
    rw [one0] at k_w0
    have k_x1 := blk_cell K_x1.out 0
    rw [one0] at k_x1
    have k_g0 := blk_cell K_g0.out 0
    rw [one0] at k_g0
    go_wp2_with fail
    clear k_p0 k_p1 k_w0 k_x1 k_g0
    refine (markDatabase_any (k0 := K10) O_x1.out (by omega) (by omega)).mono ?_
    rintro e w17_ ⟨he, hO, hG⟩
    rw [← hK11] at he
    subst he
    have hb := hG.below (B := w.heap.size) (fun b hb => Nat.le_trans D_x1.out hb.1) HB.out.size
    replace A0 := Lib.hid (A0.out.behind hb)
    replace A1 := Lib.hid (A1.out.behind hb)
    replace O_w0 := Lib.hid (O_w0.out.keptF hG (ival_disj (.inl P_w0_x1.out)))
    replace S_w0 := Lib.hid (Nat.le_trans S_w0.out hb.size)
    replace O_g0 := Lib.hid (O_g0.out.keptF hG (ival_disj (.inr P_x1_g0.out)))
    replace S_g0 := Lib.hid (Nat.le_trans S_g0.out hb.size)
    replace K_p0 := Lib.hid ((hG.block (w.heap.size) (lt_of_block K_p0.out) (fun h => by have := Q_p0_x1.out; unfold ival at h; omega)).trans K_p0.out)
    replace K_p1 := Lib.hid ((hG.block (w.heap.size + 1) (lt_of_block K_p1.out) (fun h => by have := Q_p1_x1.out; unfold ival at h; omega)).trans K_p1.out)
    replace K_w0 := Lib.hid ((hG.block (B_w0) (lt_of_block K_w0.out) (fun h => by have := Q_w0_x1.out; unfold ival at h; omega)).trans K_w0.out)
    replace K_x1 := Lib.hid ((hG.block (w7_.heap.size) (lt_of_block K_x1.out) (fun h => by have := R_x1_x1.out; unfold ival at h; omega)).trans K_x1.out)
    replace K_g0 := Lib.hid ((hG.block (w9_.heap.size) (lt_of_block K_g0.out) (fun h => by have := R_x1_g0.out; unfold ival at h; omega)).trans K_g0.out)
    replace O_x1 := Lib.hid hO
    replace S_x1 := Lib.hid (Nat.le_trans S_x1.out hb.size)
    replace HB := Lib.hid (HB.out.trans hb)
    clear hb hO hG
    have lK11 : 0 ≤ K11 ∧ K11 ≤ 2199023255553 := by omega
    have dK11 : decide (K11 < 0) = false := by simp; omega
    have HK11 := Lib.hid hK11
    clear hK11 hF11
    clear O_x1 S_x1 D_x1
    clear P_w0_x1
    clear P_x1_g0
    clear K_x1 R_x1
    -- ('eq', 'Db', ('own', 'g0'), ('own', 'w0'))
    have k_p0 := blk_cell K_p0.out 0
    rw [one0] at k_p0
    have k_p1 := blk_cell K_p1.out 0
    rw [one0] at k_p1
    have k_w0 := blk_cell K_w0.out 0
    rw [one0] at k_w0
    have k_g0 := blk_cell K_g0.out 0
    rw [one0] at k_g0
    go_wp2_with fail
    clear k_p0 k_p1 k_w0 k_g0
    refine (eqDatabase_same O_g0.out.rd2 O_w0.out.rd2 (Nat.le_refl _) (Nat.le_refl _)).mono ?_
    rintro e w18_ ⟨he, hb⟩
    subst he
    replace A0 := Lib.hid (A0.out.behind (hb.mono HB.out.size))
    replace A1 := Lib.hid (A1.out.behind (hb.mono HB.out.size))
    replace O_w0 := Lib.hid (O_w0.out.next hb)
    replace S_w0 := Lib.hid (Nat.le_trans S_w0.out hb.size)
    replace O_g0 := Lib.hid (O_g0.out.next hb)
    replace S_g0 := Lib.hid (Nat.le_trans S_g0.out hb.size)
    replace K_p0 := Lib.hid ((hb.block (w.heap.size) (lt_of_block K_p0.out)).trans K_p0.out)
    replace K_p1 := Lib.hid ((hb.block (w.heap.size + 1) (lt_of_block K_p1.out)).trans K_p1.out)
    replace K_w0 := Lib.hid ((hb.block (B_w0) (lt_of_block K_w0.out)).trans K_w0.out)
    replace K_g0 := Lib.hid ((hb.block (w9_.heap.size) (lt_of_block K_g0.out)).trans K_g0.out)
    replace HB := Lib.hid (HB.out.trans (hb.mono HB.out.size))
    clear hb
    -- ('set', 'm', '1')
    -- ('mark', 'm', 'Db', 'g0', 'm')
    have hF14 : fl ((xd s0 s1)) ≤ 1099511627776 := by have := xd_fl s0 s1; have := fl_tot s0; have := fl_tot s1; omega
    obtain ⟨K14, hK14⟩ : ∃ K : Int, K = 1 + ((fl ((xd s0 s1)) : Nat) : Int) := ⟨_, rfl⟩
    have k_p0 := blk_cell K_p0.out 0
    rw [one0] at k_p0
    have k_p1 := blk_cell K_p1.out 0
    rw [one0] at k_p1
    have k_w0 := blk_cell K_w0.out 0
    rw [one0] at k_w0
    have k_g0 := blk_cell K_g0.out 0
    rw [one0] at k_g0
    go_wp2_with fail
    clear k_p0 k_p1 k_w0 k_g0
    refine (markDatabase_any (k0 := 1) O_g0.out (by omega) (by omega)).mono ?_
    rintro e w19_ ⟨he, hO, hG⟩
    rw [← hK14] at he
    subst he
    have hb := hG.below (B := w.heap.size) (fun b hb => Nat.le_trans D_g0.out hb.1) HB.out.size
    replace A0 := Lib.hid (A0.out.behind hb)
    replace A1 := Lib.hid (A1.out.behind hb)
    replace O_w0 := Lib.hid (O_w0.out.keptF hG (ival_disj (.inl P_w0_g0.out)))
    replace S_w0 := Lib.hid (Nat.le_trans S_w0.out hb.size)
    replace K_p0 := Lib.hid ((hG.block (w.heap.size) (lt_of_block K_p0.out) (fun h => by have := Q_p0_g0.out; unfold ival at h; omega)).trans K_p0.out)
    replace K_p1 := Lib.hid ((hG.block (w.heap.size + 1) (lt_of_block K_p1.out) (fun h => by have := Q_p1_g0.out; unfold ival at h; omega)).trans K_p1.out)
    replace K_w0 := Lib.hid ((hG.block (B_w0) (lt_of_block K_w0.out) (fun h => by have := Q_w0_g0.out; unfold ival at h; omega)).trans K_w0.out)
    replace K_g0 := Lib.hid ((hG.block (w9_.heap.size) (lt_of_block K_g0.out) (fun h => by have := R_g0_g0.out; unfold ival at h; omega)).trans K_g0.out)
    replace O_g0 := Lib.hid hO
    replace S_g0 := Lib.hid (Nat.le_trans S_g0.out hb.size)
    replace HB := Lib.hid (HB.out.trans hb)
    clear hb hO hG
    have lK14 : 0 ≤ K14 ∧ K14 ≤ 1099511627777 := by omega
    have dK14 : decide (K14 < 0) = false := by simp; omega
    have HK14 := Lib.hid hK14
    clear hK14 hF14
    -- ('set', 'q', '1')
    -- ('held', 'q', 'Db', 'g0', 'q')
    have k_p0 := blk_cell K_p0.out 0
    rw [one0] at k_p0
    have k_p1 := blk_cell K_p1.out 0
    rw [one0] at k_p1
    have k_w0 := blk_cell K_w0.out 0
    rw [one0] at k_w0
    have k_g0 := blk_cell K_g0.out 0
    rw [one0] at k_g0
    go_wp2_with fail
    clear k_p0 k_p1 k_w0 k_g0
    refine (heldDatabase_any (k0 := 1) O_g0.out.rd2 (Nat.le_refl _) (by omega) (by have := HK14.out; omega)).mono ?_
    rintro e w20_ ⟨he, hb⟩
    rw [← HK14.out] at he
    subst he
    replace A0 := Lib.hid (A0.out.behind (hb.mono HB.out.size))
    replace A1 := Lib.hid (A1.out.behind (hb.mono HB.out.size))
    replace O_w0 := Lib.hid (O_w0.out.next hb)
    replace S_w0 := Lib.hid (Nat.le_trans S_w0.out hb.size)
    replace O_g0 := Lib.hid (O_g0.out.next hb)
    replace S_g0 := Lib.hid (Nat.le_trans S_g0.out hb.size)
    replace K_p0 := Lib.hid ((hb.block (w.heap.size) (lt_of_block K_p0.out)).trans K_p0.out)
    replace K_p1 := Lib.hid ((hb.block (w.heap.size + 1) (lt_of_block K_p1.out)).trans K_p1.out)
    replace K_w0 := Lib.hid ((hb.block (B_w0) (lt_of_block K_w0.out)).trans K_w0.out)
    replace K_g0 := Lib.hid ((hb.block (w9_.heap.size) (lt_of_block K_g0.out)).trans K_g0.out)
    replace HB := Lib.hid (HB.out.trans (hb.mono HB.out.size))
    clear hb
    -- ('call', 'impl', 'XorDatabases', [('copy', 0, 'Db'), ('copy', 1, 'Db')], ['h0', 'h1'])
    have k_p0 := blk_cell K_p0.out 0
    rw [one0] at k_p0
    have k_p1 := blk_cell K_p1.out 0
    rw [one0] at k_p1
    have k_w0 := blk_cell K_w0.out 0
    rw [one0] at k_w0
    have k_g0 := blk_cell K_g0.out 0
    rw [one0] at k_g0
    go_wp2_with fail
    clear k_p0 k_p1 k_w0 k_g0
    go_cut [15, 16] (fun p b wx => ∃ (B lo hi : Nat) (a : Option Addr) (L c : Nat), p = .pointer (some ⟨B, 0, none⟩) ∧ b = .bool (xdK s0 s1) ∧ Own2 22 5 .u8 (ival lo hi) wx (.slice a L c) ((xd s0 s1)) ∧ wx.heap[B]? = some (.cells #[.slice a L c] 39) ∧ w20_.heap.size ≤ lo ∧ lo ≤ hi ∧ hi ≤ wx.heap.size ∧ (B < lo ∨ hi ≤ B) ∧ w20_.heap.size ≤ B ∧ Below w20_.heap.size w20_ wx)
    case first =>
      have A0' := Lib.hid (A0.out.behind ((Below.refl w20_.heap.size w20_).drew.mono HB.out.size))
      have K_p0' : Hid (w20_.drew.heap[w.heap.size]? = some (.cells #[.slice a0 s0.length cap0] 37)) := Lib.hid K_p0.out
      have A1' := Lib.hid (A1.out.behind ((Below.refl w20_.heap.size w20_).drew.mono HB.out.size))
      have K_p1' : Hid (w20_.drew.heap[w.heap.size + 1]? = some (.cells #[.slice a1 s1.length cap1] 37)) := Lib.hid K_p1.out
      have HC : Hid (Below w20_.heap.size w20_ w20_.drew) := Lib.hid (Below.refl _ _).drew
      have d0 : w20_.drew.cell? ⟨w.heap.size, 0, none⟩ = some (.slice a0 s0.length cap0) ∧ w20_.drew.cell? ⟨w.heap.size + 1, 0, none⟩ = some (.slice a1 s1.length cap1) := ⟨(blk_cell K_p0'.out 0).trans (one0 _), (blk_cell K_p1'.out 0).trans (one0 _)⟩
      refine region_till (fun w' => w'.cell? ⟨w.heap.size, 0, none⟩ = some (.slice a0 s0.length cap0) ∧ w'.cell? ⟨w.heap.size + 1, 0, none⟩ = some (.slice a1 s1.length cap1)) 10 (by kernel_rfl) ?_
      obtain ⟨y0_, hy⟩ : ∃ y, y = w20_.drew := ⟨_, rfl⟩
      rw [← hy] at A0' K_p0' A1' K_p1' HC d0 ⊢
      clear hy
      apply Till.take (i := 0) [0, 1, 4, 5, 6, 9, 10]
      · simp only [List.getElem?_toArray, List.getElem?_cons_zero]
        rfl
      · kernel_rfl
      · kernel_rfl
      · kernel_rfl
      · kernel_rfl
      · exact fun _ _ _ h => h
      · first
          | exact Or.inr ⟨by rfl, rfl⟩
          | (refine Or.inl ⟨by rfl, fun wq hwq => ?_⟩
             dsimp only at hwq
             go_simp
             first
               | done
               | rfl)
      · exact d0
      simp only [Act.put, List.setIfInBounds_toArray, List.set_cons_zero, List.set_cons_succ]
      apply Till.take (i := 2) [2, 3, 4, 5, 6, 9, 10]
      · simp only [List.getElem?_toArray, List.getElem?_cons_succ, List.getElem?_cons_zero]
        rfl
      · kernel_rfl
      · kernel_rfl
      · kernel_rfl
      · kernel_rfl
      · exact fun _ _ _ h => h
      · first
          | exact Or.inr ⟨by rfl, rfl⟩
          | (refine Or.inl ⟨by rfl, fun wq hwq => ?_⟩
             dsimp only at hwq
             go_simp
             first
               | done
               | rfl)
      · exact d0
      simp only [Act.put, List.setIfInBounds_toArray, List.set_cons_zero, List.set_cons_succ]
      apply Till.two (i := 1) (j := 8)
      · kernel_rfl
      · simp only [List.getElem?_toArray, List.getElem?_cons_succ, List.getElem?_cons_zero]
        rfl
      · simp only [List.getElem?_toArray, List.getElem?_cons_succ, List.getElem?_cons_zero]
        rfl
      ·
        intro K hK
        go_simp
        refine (toDatabase_any A0'.out (Nat.le_trans HB.out.size HC.out.size) (by omega)).mono ?_
        rintro e' y1_ ⟨vt, he, hO, hb⟩
        subst he
        obtain ⟨L_0, hL⟩ : ∃ L, L = (s0).length := ⟨_, rfl⟩
        obtain ⟨a_0, c_0, hv, _⟩ := hO.open
        rw [← hL] at hv
        clear hL
        subst hv
        have hbx : Below y0_.heap.size y0_ y1_ := hb
        replace A0' := Lib.hid (A0'.out.behind (hbx.mono (Nat.le_trans HB.out.size HC.out.size)))
        replace K_p0' := Lib.hid ((hbx.block (w.heap.size) (lt_of_block K_p0'.out)).trans K_p0'.out)
        replace A1' := Lib.hid (A1'.out.behind (hbx.mono (Nat.le_trans HB.out.size HC.out.size)))
        replace K_p1' := Lib.hid ((hbx.block (w.heap.size + 1) (lt_of_block K_p1'.out)).trans K_p1'.out)
        replace HC := Lib.hid (HC.out.trans (hbx.mono HC.out.size))
        have T_0 := Lib.hid hO
        clear hO hb hbx
        have d1 : y1_.cell? ⟨w.heap.size, 0, none⟩ = some (.slice a0 s0.length cap0) ∧ y1_.cell? ⟨w.heap.size + 1, 0, none⟩ = some (.slice a1 s1.length cap1) := ⟨(blk_cell K_p0'.out 0).trans (one0 _), (blk_cell K_p1'.out 0).trans (one0 _)⟩
        refine hK.out _ _ (Or.inr d1) ?_
        clear hK K
        try simp only [Act.put, List.setIfInBounds_toArray, List.set_cons_zero, List.set_cons_succ]
        apply Till.two (i := 3) (j := 8)
        · kernel_rfl
        · simp only [List.getElem?_toArray, List.getElem?_cons_succ, List.getElem?_cons_zero]
          rfl
        · simp only [List.getElem?_toArray, List.getElem?_cons_succ, List.getElem?_cons_zero]
          rfl
        ·
          intro K hK
          go_simp
          refine (toDatabase_any A1'.out (Nat.le_trans HB.out.size HC.out.size) (by omega)).mono ?_
          rintro e' y2_ ⟨vt, he, hO, hb⟩
          subst he
          obtain ⟨L_1, hL⟩ : ∃ L, L = (s1).length := ⟨_, rfl⟩
          obtain ⟨a_1, c_1, hv, _⟩ := hO.open
          rw [← hL] at hv
          clear hL
          subst hv
          have hbx : Below y1_.heap.size y1_ y2_ := hb
          replace A0' := Lib.hid (A0'.out.behind (hbx.mono (Nat.le_trans HB.out.size HC.out.size)))
          replace K_p0' := Lib.hid ((hbx.block (w.heap.size) (lt_of_block K_p0'.out)).trans K_p0'.out)
          replace A1' := Lib.hid (A1'.out.behind (hbx.mono (Nat.le_trans HB.out.size HC.out.size)))
          replace K_p1' := Lib.hid ((hbx.block (w.heap.size + 1) (lt_of_block K_p1'.out)).trans K_p1'.out)
          replace T_0 := Lib.hid (T_0.out.next hbx)
          replace HC := Lib.hid (HC.out.trans (hbx.mono HC.out.size))
          have T_1 := Lib.hid hO
          clear hO hb hbx
          have d2 : y2_.cell? ⟨w.heap.size, 0, none⟩ = some (.slice a0 s0.length cap0) ∧ y2_.cell? ⟨w.heap.size + 1, 0, none⟩ = some (.slice a1 s1.length cap1) := ⟨(blk_cell K_p0'.out 0).trans (one0 _), (blk_cell K_p1'.out 0).trans (one0 _)⟩
          refine hK.out _ _ (Or.inr d2) ?_
          clear hK K
          try simp only [Act.put, List.setIfInBounds_toArray, List.set_cons_zero, List.set_cons_succ]
          apply Till.two (i := 4) (j := 8)
          · kernel_rfl
          · simp only [List.getElem?_toArray, List.getElem?_cons_succ, List.getElem?_cons_zero]
            rfl
          · simp only [List.getElem?_toArray, List.getElem?_cons_succ, List.getElem?_cons_zero]
            rfl
          ·
            intro K hK
            go_simp
            refine (impl_aw T_0.out.rd2 T_1.out.rd2 (Nat.le_refl _) (Nat.le_refl _) (by omega) (by omega)).mono ?_
            rintro e' y3_ ⟨vt, he, hO, hb⟩
            subst he
            obtain ⟨L_9, hL⟩ : ∃ L, L = ((xd s0 s1)).length := ⟨_, rfl⟩
            obtain ⟨a_9, c_9, hv, _⟩ := hO.open
            rw [← hL] at hv
            clear hL
            subst hv
            have HLo : Hid (w20_.heap.size ≤ y2_.heap.size) := Lib.hid HC.out.size
            have hbx : Below y2_.heap.size y2_ y3_ := hb
            replace A0' := Lib.hid (A0'.out.behind (hbx.mono (Nat.le_trans HB.out.size HC.out.size)))
            replace K_p0' := Lib.hid ((hbx.block (w.heap.size) (lt_of_block K_p0'.out)).trans K_p0'.out)
            replace A1' := Lib.hid (A1'.out.behind (hbx.mono (Nat.le_trans HB.out.size HC.out.size)))
            replace K_p1' := Lib.hid ((hbx.block (w.heap.size + 1) (lt_of_block K_p1'.out)).trans K_p1'.out)
            replace HC := Lib.hid (HC.out.trans (hbx.mono HC.out.size))
            have HSh : Hid (y2_.heap.size ≤ y3_.heap.size) := Lib.hid hb.size
            have T_9 := Lib.hid hO
            have HHi : Hid (y3_.heap.size ≤ y3_.heap.size) := Lib.hid (Nat.le_refl _)
            clear hO hb hbx
            have d3 : y3_.cell? ⟨w.heap.size, 0, none⟩ = some (.slice a0 s0.length cap0) ∧ y3_.cell? ⟨w.heap.size + 1, 0, none⟩ = some (.slice a1 s1.length cap1) := ⟨(blk_cell K_p0'.out 0).trans (one0 _), (blk_cell K_p1'.out 0).trans (one0 _)⟩
            refine hK.out _ _ (Or.inr d3) ?_
            clear hK K
            try simp only [Act.put, List.setIfInBounds_toArray, List.set_cons_zero, List.set_cons_succ]
            apply Till.take (i := 5) [5, 6, 9, 10]
            · simp only [List.getElem?_toArray, List.getElem?_cons_succ, List.getElem?_cons_zero]
              rfl
            · kernel_rfl
            · kernel_rfl
            · kernel_rfl
            · kernel_rfl
            · exact fun _ _ _ h => h
            · first
                | exact Or.inr ⟨by rfl, rfl⟩
                | (refine Or.inl ⟨by rfl, fun wq hwq => ?_⟩
                   dsimp only at hwq
                   go_simp
                   first
                     | done
                     | rfl)
            · exact d3
            simp only [Act.put, List.setIfInBounds_toArray, List.set_cons_zero, List.set_cons_succ]
            apply Till.take (i := 6) [6, 9, 10]
            · simp only [List.getElem?_toArray, List.getElem?_cons_succ, List.getElem?_cons_zero]
              rfl
            · kernel_rfl
            · kernel_rfl
            · kernel_rfl
            · kernel_rfl
            · exact fun _ _ _ h => h
            · first
                | exact Or.inr ⟨by rfl, rfl⟩
                | (refine Or.inl ⟨by rfl, fun wq hwq => ?_⟩
                   dsimp only at hwq
                   go_simp
                   first
                     | done
                     | rfl)
            · exact d3
            simp only [Act.put, List.setIfInBounds_toArray, List.set_cons_zero, List.set_cons_succ]
            apply Till.take (i := 7) [7, 10]
            · simp only [List.getElem?_toArray, List.getElem?_cons_succ, List.getElem?_cons_zero]
              rfl
            · kernel_rfl
            · kernel_rfl
            · kernel_rfl
            · kernel_rfl
            · exact fun _ _ _ h => h
            · first
                | exact Or.inr ⟨by rfl, rfl⟩
                | (refine Or.inl ⟨by rfl, fun wq hwq => ?_⟩
                   dsimp only at hwq
                   go_simp
                   first
                     | done
                     | rfl)
            · exact d3
            simp only [Act.put, List.setIfInBounds_toArray, List.set_cons_zero, List.set_cons_succ]
            apply Till.one (i := 8)
            · kernel_rfl
            · simp only [List.getElem?_toArray, List.getElem?_cons_succ, List.getElem?_cons_zero]
              rfl
            intro K hK
            go_simp
            have hbx : Below y3_.heap.size y3_ (y3_.alloc (.cells #[.slice none 0 0] 39)) := (Below.refl _ _).alloc (Nat.le_refl _) _
            replace A0' := Lib.hid (A0'.out.behind (hbx.mono (Nat.le_trans HB.out.size HC.out.size)))
            replace K_p0' := Lib.hid ((hbx.block (w.heap.size) (lt_of_block K_p0'.out)).trans K_p0'.out)
            replace A1' := Lib.hid (A1'.out.behind (hbx.mono (Nat.le_trans HB.out.size HC.out.size)))
            replace K_p1' := Lib.hid ((hbx.block (w.heap.size + 1) (lt_of_block K_p1'.out)).trans K_p1'.out)
            replace T_9 := Lib.hid (T_9.out.next hbx)
            replace HHi := Lib.hid (Nat.le_trans HHi.out hbx.size)
            have HBB : Hid (w20_.heap.size ≤ y3_.heap.size) := Lib.hid HC.out.size
            replace HC := Lib.hid (HC.out.trans (hbx.mono HC.out.size))
            have KB := Lib.hid (heap_alloc_new y3_ (.cells #[.slice none 0 0] 39))
            clear hbx
            have d4 : (y3_.alloc (.cells #[.slice none 0 0] 39)).cell? ⟨w.heap.size, 0, none⟩ = some (.slice a0 s0.length cap0) ∧ (y3_.alloc (.cells #[.slice none 0 0] 39)).cell? ⟨w.heap.size + 1, 0, none⟩ = some (.slice a1 s1.length cap1) := ⟨(blk_cell K_p0'.out 0).trans (one0 _), (blk_cell K_p1'.out 0).trans (one0 _)⟩
            obtain ⟨y4_, hy⟩ : ∃ y, y = (y3_.alloc (.cells #[.slice none 0 0] 39)) := ⟨_, rfl⟩
            rw [← hy] at A0' K_p0' A1' K_p1' HC KB d4 T_9 HHi ⊢
            clear hy
            refine hK.out _ _ (Or.inr d4) ?_
            clear hK K
            try simp only [Act.put, List.setIfInBounds_toArray, List.set_cons_zero, List.set_cons_succ]
            have cB := blk_cell KB.out 0
            have fB := blk_free KB.out 0
            rw [one0] at cB
            obtain ⟨hD8, _, k8⟩ := store1 KB.out (.slice a_9 L_9 c_9)
            have d99 : (y4_.setCell ⟨y3_.heap.size, 0, none⟩ (.slice a_9 L_9 c_9)).cell? ⟨w.heap.size, 0, none⟩ = some (.slice a0 s0.length cap0) ∧ (y4_.setCell ⟨y3_.heap.size, 0, none⟩ (.slice a_9 L_9 c_9)).cell? ⟨w.heap.size + 1, 0, none⟩ = some (.slice a1 s1.length cap1) := ⟨(blk_cell ((k8.block (w.heap.size) (lt_of_block K_p0'.out) (by have := HBB.out; have := lt_of_block K_p0.out; omega)).trans K_p0'.out) 0).trans (one0 _), (blk_cell ((k8.block (w.heap.size + 1) (lt_of_block K_p1'.out) (by have := HBB.out; have := lt_of_block K_p1.out; omega)).trans K_p1'.out) 0).trans (one0 _)⟩
            apply Till.one (i := 9)
            · kernel_rfl
            · simp only [List.getElem?_toArray, List.getElem?_cons_succ, List.getElem?_cons_zero]
              rfl
            intro K hK
            go_simp
            skip
            refine hK.out _ _ (Or.inr d99) ?_
            clear hK K
            try simp only [Act.put, List.setIfInBounds_toArray, List.set_cons_zero, List.set_cons_succ]
            obtain ⟨W8, hW8⟩ : ∃ W8, W8 = (y4_.setCell ⟨y3_.heap.size, 0, none⟩ (.slice a_9 L_9 c_9)) := ⟨_, rfl⟩
            have hs8 : W8.heap.size = y4_.heap.size := by rw [hW8, World.setCell_size]
            rw [← hW8] at hD8 k8 d99 ⊢
            clear hW8
            apply Till.one (i := 10)
            · kernel_rfl
            · simp only [List.getElem?_toArray, List.getElem?_cons_succ, List.getElem?_cons_zero]
              rfl
            intro K hK
            go_simp
            skip
            refine hK.out _ _ (Or.inl (by rfl)) ?_
            clear hK K
            try simp only [Act.put, List.setIfInBounds_toArray, List.set_cons_zero, List.set_cons_succ]
            refine Till.done (by kernel_rfl) ?_ _
            have hpos : y3_.heap.size < y2_.heap.size ∨ y3_.heap.size ≤ y3_.heap.size := by first | exact Or.inl HBl.out | exact Or.inr (Nat.le_refl _)
            have hT := T_9.out.keptF k8 (fun b hb => by unfold ival at hb; omega)
            have hBl := HC.out.trans (k8.below (B := w20_.heap.size) (fun b hb => by have := HBB.out; omega) HC.out.size)
            have hSh := HSh.out
            have hLo := HLo.out
            have hHi := HHi.out
            have hBB := HBB.out
            have hHi8 : y3_.heap.size ≤ W8.heap.size := by omega
            clear cB fB d99 k8 hs8 hHi
            go_wp2_with fail
            go_meet
            case rel => exact ⟨_, y2_.heap.size, y3_.heap.size, _, _, _, rfl, rfl, hT, hD8, hLo, hSh, hHi8, hpos, hBB, hBl⟩
          ·
            intro K hK
            go_simp
            have hbx : Below y2_.heap.size y2_ (y2_.alloc (.cells #[.slice none 0 0] 39)) := (Below.refl _ _).alloc (Nat.le_refl _) _
            replace A0' := Lib.hid (A0'.out.behind (hbx.mono (Nat.le_trans HB.out.size HC.out.size)))
            replace K_p0' := Lib.hid ((hbx.block (w.heap.size) (lt_of_block K_p0'.out)).trans K_p0'.out)
            replace A1' := Lib.hid (A1'.out.behind (hbx.mono (Nat.le_trans HB.out.size HC.out.size)))
            replace K_p1' := Lib.hid ((hbx.block (w.heap.size + 1) (lt_of_block K_p1'.out)).trans K_p1'.out)
            replace T_0 := Lib.hid (T_0.out.next hbx)
            replace T_1 := Lib.hid (T_1.out.next hbx)
            have HBB : Hid (w20_.heap.size ≤ y2_.heap.size) := Lib.hid HC.out.size
            replace HC := Lib.hid (HC.out.trans (hbx.mono HC.out.size))
            have KB := Lib.hid (heap_alloc_new y2_ (.cells #[.slice none 0 0] 39))
            clear hbx
            have d5 : (y2_.alloc (.cells #[.slice none 0 0] 39)).cell? ⟨w.heap.size, 0, none⟩ = some (.slice a0 s0.length cap0) ∧ (y2_.alloc (.cells #[.slice none 0 0] 39)).cell? ⟨w.heap.size + 1, 0, none⟩ = some (.slice a1 s1.length cap1) := ⟨(blk_cell K_p0'.out 0).trans (one0 _), (blk_cell K_p1'.out 0).trans (one0 _)⟩
            obtain ⟨y5_, hy⟩ : ∃ y, y = (y2_.alloc (.cells #[.slice none 0 0] 39)) := ⟨_, rfl⟩
            rw [← hy] at A0' K_p0' A1' K_p1' HC KB d5 T_0 T_1 ⊢
            clear hy
            refine hK.out _ _ (Or.inr d5) ?_
            clear hK K
            try simp only [Act.put, List.setIfInBounds_toArray, List.set_cons_zero, List.set_cons_succ]
            apply Till.one (i := 4)
            · kernel_rfl
            · simp only [List.getElem?_toArray, List.getElem?_cons_succ, List.getElem?_cons_zero]
              rfl
            intro K hK
            go_simp
            refine (impl_aw T_0.out.rd2 T_1.out.rd2 (Nat.le_refl _) (Nat.le_refl _) (by omega) (by omega)).mono ?_
            rintro e' y6_ ⟨vt, he, hO, hb⟩
            subst he
            obtain ⟨L_9, hL⟩ : ∃ L, L = ((xd s0 s1)).length := ⟨_, rfl⟩
            obtain ⟨a_9, c_9, hv, _⟩ := hO.open
            rw [← hL] at hv
            clear hL
            subst hv
            have HLo : Hid (w20_.heap.size ≤ y5_.heap.size) := Lib.hid HC.out.size
            have HBl : Hid (y2_.heap.size < y5_.heap.size) := Lib.hid (lt_of_block KB.out)
            have hbx : Below y5_.heap.size y5_ y6_ := hb
            replace A0' := Lib.hid (A0'.out.behind (hbx.mono (Nat.le_trans HB.out.size HC.out.size)))
            replace K_p0' := Lib.hid ((hbx.block (w.heap.size) (lt_of_block K_p0'.out)).trans K_p0'.out)
            replace A1' := Lib.hid (A1'.out.behind (hbx.mono (Nat.le_trans HB.out.size HC.out.size)))
            replace K_p1' := Lib.hid ((hbx.block (w.heap.size + 1) (lt_of_block K_p1'.out)).trans K_p1'.out)
            replace KB := Lib.hid ((hbx.block _ (lt_of_block KB.out)).trans KB.out)
            replace HC := Lib.hid (HC.out.trans (hbx.mono HC.out.size))
            have HSh : Hid (y5_.heap.size ≤ y6_.heap.size) := Lib.hid hb.size
            have T_9 := Lib.hid hO
            have HHi : Hid (y6_.heap.size ≤ y6_.heap.size) := Lib.hid (Nat.le_refl _)
            clear hO hb hbx
            have d6 : y6_.cell? ⟨w.heap.size, 0, none⟩ = some (.slice a0 s0.length cap0) ∧ y6_.cell? ⟨w.heap.size + 1, 0, none⟩ = some (.slice a1 s1.length cap1) := ⟨(blk_cell K_p0'.out 0).trans (one0 _), (blk_cell K_p1'.out 0).trans (one0 _)⟩
            refine hK.out _ _ (Or.inr d6) ?_
            clear hK K
            try simp only [Act.put, List.setIfInBounds_toArray, List.set_cons_zero, List.set_cons_succ]
            apply Till.take (i := 5) [5, 6, 9, 10]
            · simp only [List.getElem?_toArray, List.getElem?_cons_succ, List.getElem?_cons_zero]
              rfl
            · kernel_rfl
            · kernel_rfl
            · kernel_rfl
            · kernel_rfl
            · exact fun _ _ _ h => h
            · first
                | exact Or.inr ⟨by rfl, rfl⟩
                | (refine Or.inl ⟨by rfl, fun wq hwq => ?_⟩
                   dsimp only at hwq
                   go_simp
                   first
                     | done
                     | rfl)
            · exact d6
            simp only [Act.put, List.setIfInBounds_toArray, List.set_cons_zero, List.set_cons_succ]
            apply Till.take (i := 6) [6, 9, 10]
            · simp only [List.getElem?_toArray, List.getElem?_cons_succ, List.getElem?_cons_zero]
              rfl
            · kernel_rfl
            · kernel_rfl
            · kernel_rfl
            · kernel_rfl
            · exact fun _ _ _ h => h
            · first
                | exact Or.inr ⟨by rfl, rfl⟩
                | (refine Or.inl ⟨by rfl, fun wq hwq => ?_⟩
                   dsimp only at hwq
                   go_simp
                   first
                     | done
                     | rfl)
            · exact d6
            simp only [Act.put, List.setIfInBounds_toArray, List.set_cons_zero, List.set_cons_succ]
            apply Till.take (i := 7) [7, 10]
            · simp only [List.getElem?_toArray, List.getElem?_cons_succ, List.getElem?_cons_zero]
              rfl
            · kernel_rfl
            · kernel_rfl
            · kernel_rfl
            · kernel_rfl
            · exact fun _ _ _ h => h
            · first
                | exact Or.inr ⟨by rfl, rfl⟩
                | (refine Or.inl ⟨by rfl, fun wq hwq => ?_⟩
                   dsimp only at hwq
                   go_simp
                   first
                     | done
                     | rfl)
            · exact d6
            simp only [Act.put, List.setIfInBounds_toArray, List.set_cons_zero, List.set_cons_succ]
            have cB := blk_cell KB.out 0
            have fB := blk_free KB.out 0
            rw [one0] at cB
            obtain ⟨hD8, _, k8⟩ := store1 KB.out (.slice a_9 L_9 c_9)
            have d99 : (y6_.setCell ⟨y2_.heap.size, 0, none⟩ (.slice a_9 L_9 c_9)).cell? ⟨w.heap.size, 0, none⟩ = some (.slice a0 s0.length cap0) ∧ (y6_.setCell ⟨y2_.heap.size, 0, none⟩ (.slice a_9 L_9 c_9)).cell? ⟨w.heap.size + 1, 0, none⟩ = some (.slice a1 s1.length cap1) := ⟨(blk_cell ((k8.block (w.heap.size) (lt_of_block K_p0'.out) (by have := HBB.out; have := lt_of_block K_p0.out; omega)).trans K_p0'.out) 0).trans (one0 _), (blk_cell ((k8.block (w.heap.size + 1) (lt_of_block K_p1'.out) (by have := HBB.out; have := lt_of_block K_p1.out; omega)).trans K_p1'.out) 0).trans (one0 _)⟩
            apply Till.one (i := 9)
            · kernel_rfl
            · simp only [List.getElem?_toArray, List.getElem?_cons_succ, List.getElem?_cons_zero]
              rfl
            intro K hK
            go_simp
            skip
            refine hK.out _ _ (Or.inr d99) ?_
            clear hK K
            try simp only [Act.put, List.setIfInBounds_toArray, List.set_cons_zero, List.set_cons_succ]
            obtain ⟨W8, hW8⟩ : ∃ W8, W8 = (y6_.setCell ⟨y2_.heap.size, 0, none⟩ (.slice a_9 L_9 c_9)) := ⟨_, rfl⟩
            have hs8 : W8.heap.size = y6_.heap.size := by rw [hW8, World.setCell_size]
            rw [← hW8] at hD8 k8 d99 ⊢
            clear hW8
            apply Till.one (i := 10)
            · kernel_rfl
            · simp only [List.getElem?_toArray, List.getElem?_cons_succ, List.getElem?_cons_zero]
              rfl
            intro K hK
            go_simp
            skip
            refine hK.out _ _ (Or.inl (by rfl)) ?_
            clear hK K
            try simp only [Act.put, List.setIfInBounds_toArray, List.set_cons_zero, List.set_cons_succ]
            refine Till.done (by kernel_rfl) ?_ _
            have hpos : y2_.heap.size < y5_.heap.size ∨ y6_.heap.size ≤ y2_.heap.size := by first | exact Or.inl HBl.out | exact Or.inr (Nat.le_refl _)
            have hT := T_9.out.keptF k8 (fun b hb => by unfold ival at hb; omega)
            have hBl := HC.out.trans (k8.below (B := w20_.heap.size) (fun b hb => by have := HBB.out; omega) HC.out.size)
            have hSh := HSh.out
            have hLo := HLo.out
            have hHi := HHi.out
            have hBB := HBB.out
            have hHi8 : y6_.heap.size ≤ W8.heap.size := by omega
            clear cB fB d99 k8 hs8 hHi
            go_wp2_with fail
            go_meet
            case rel => exact ⟨_, y5_.heap.size, y6_.heap.size, _, _, _, rfl, rfl, hT, hD8, hLo, hSh, hHi8, hpos, hBB, hBl⟩
        ·
          intro K hK
          go_simp
          have hbx : Below y1_.heap.size y1_ (y1_.alloc (.cells #[.slice none 0 0] 39)) := (Below.refl _ _).alloc (Nat.le_refl _) _
          replace A0' := Lib.hid (A0'.out.behind (hbx.mono (Nat.le_trans HB.out.size HC.out.size)))
          replace K_p0' := Lib.hid ((hbx.block (w.heap.size) (lt_of_block K_p0'.out)).trans K_p0'.out)
          replace A1' := Lib.hid (A1'.out.behind (hbx.mono (Nat.le_trans HB.out.size HC.out.size)))
          replace K_p1' := Lib.hid ((hbx.block (w.heap.size + 1) (lt_of_block K_p1'.out)).trans K_p1'.out)
          replace T_0 := Lib.hid (T_0.out.next hbx)
          have HBB : Hid (w20_.heap.size ≤ y1_.heap.size) := Lib.hid HC.out.size
          replace HC := Lib.hid (HC.out.trans (hbx.mono HC.out.size))
          have KB := Lib.hid (heap_alloc_new y1_ (.cells #[.slice none 0 0] 39))
          clear hbx
          have d7 : (y1_.alloc (.cells #[.slice none 0 0] 39)).cell? ⟨w.heap.size, 0, none⟩ = some (.slice a0 s0.length cap0) ∧ (y1_.alloc (.cells #[.slice none 0 0] 39)).cell? ⟨w.heap.size + 1, 0, none⟩ = some (.slice a1 s1.length cap1) := ⟨(blk_cell K_p0'.out 0).trans (one0 _), (blk_cell K_p1'.out 0).trans (one0 _)⟩
          obtain ⟨y7_, hy⟩ : ∃ y, y = (y1_.alloc (.cells #[.slice none 0 0] 39)) := ⟨_, rfl⟩
          rw [← hy] at A0' K_p0' A1' K_p1' HC KB d7 T_0 ⊢
          clear hy
          refine hK.out _ _ (Or.inr d7) ?_
          clear hK K
          try simp only [Act.put, List.setIfInBounds_toArray, List.set_cons_zero, List.set_cons_succ]
          apply Till.one (i := 3)
          · kernel_rfl
          · simp only [List.getElem?_toArray, List.getElem?_cons_succ, List.getElem?_cons_zero]
            rfl
          intro K hK
          go_simp
          refine (toDatabase_any A1'.out (Nat.le_trans HB.out.size HC.out.size) (by omega)).mono ?_
          rintro e' y8_ ⟨vt, he, hO, hb⟩
          subst he
          obtain ⟨L_1, hL⟩ : ∃ L, L = (s1).length := ⟨_, rfl⟩
          obtain ⟨a_1, c_1, hv, _⟩ := hO.open
          rw [← hL] at hv
          clear hL
          subst hv
          have hbx : Below y7_.heap.size y7_ y8_ := hb
          replace A0' := Lib.hid (A0'.out.behind (hbx.mono (Nat.le_trans HB.out.size HC.out.size)))
          replace K_p0' := Lib.hid ((hbx.block (w.heap.size) (lt_of_block K_p0'.out)).trans K_p0'.out)
          replace A1' := Lib.hid (A1'.out.behind (hbx.mono (Nat.le_trans HB.out.size HC.out.size)))
          replace K_p1' := Lib.hid ((hbx.block (w.heap.size + 1) (lt_of_block K_p1'.out)).trans K_p1'.out)
          replace T_0 := Lib.hid (T_0.out.next hbx)
          replace KB := Lib.hid ((hbx.block _ (lt_of_block KB.out)).trans KB.out)
          replace HC := Lib.hid (HC.out.trans (hbx.mono HC.out.size))
          have T_1 := Lib.hid hO
          clear hO hb hbx
          have d8 : y8_.cell? ⟨w.heap.size, 0, none⟩ = some (.slice a0 s0.length cap0) ∧ y8_.cell? ⟨w.heap.size + 1, 0, none⟩ = some (.slice a1 s1.length cap1) := ⟨(blk_cell K_p0'.out 0).trans (one0 _), (blk_cell K_p1'.out 0).trans (one0 _)⟩
          refine hK.out _ _ (Or.inr d8) ?_
          clear hK K
          try simp only [Act.put, List.setIfInBounds_toArray, List.set_cons_zero, List.set_cons_succ]
          apply Till.one (i := 4)
          · kernel_rfl
          · simp only [List.getElem?_toArray, List.getElem?_cons_succ, List.getElem?_cons_zero]
            rfl
          intro K hK
          go_simp
          refine (impl_aw T_0.out.rd2 T_1.out.rd2 (Nat.le_refl _) (Nat.le_refl _) (by omega) (by omega)).mono ?_
          rintro e' y9_ ⟨vt, he, hO, hb⟩
          subst he
          obtain ⟨L_9, hL⟩ : ∃ L, L = ((xd s0 s1)).length := ⟨_, rfl⟩
          obtain ⟨a_9, c_9, hv, _⟩ := hO.open
          rw [← hL] at hv
          clear hL
          subst hv
          have HLo : Hid (w20_.heap.size ≤ y8_.heap.size) := Lib.hid HC.out.size
          have HBl : Hid (y1_.heap.size < y8_.heap.size) := Lib.hid (lt_of_block KB.out)
          have hbx : Below y8_.heap.size y8_ y9_ := hb
          replace A0' := Lib.hid (A0'.out.behind (hbx.mono (Nat.le_trans HB.out.size HC.out.size)))
          replace K_p0' := Lib.hid ((hbx.block (w.heap.size) (lt_of_block K_p0'.out)).trans K_p0'.out)
          replace A1' := Lib.hid (A1'.out.behind (hbx.mono (Nat.le_trans HB.out.size HC.out.size)))
          replace K_p1' := Lib.hid ((hbx.block (w.heap.size + 1) (lt_of_block K_p1'.out)).trans K_p1'.out)
          replace KB := Lib.hid ((hbx.block _ (lt_of_block KB.out)).trans KB.out)
          replace HC := Lib.hid (HC.out.trans (hbx.mono HC.out.size))
          have HSh : Hid (y8_.heap.size ≤ y9_.heap.size) := Lib.hid hb.size
          have T_9 := Lib.hid hO
          have HHi : Hid (y9_.heap.size ≤ y9_.heap.size) := Lib.hid (Nat.le_refl _)
          clear hO hb hbx
          have d9 : y9_.cell? ⟨w.heap.size, 0, none⟩ = some (.slice a0 s0.length cap0) ∧ y9_.cell? ⟨w.heap.size + 1, 0, none⟩ = some (.slice a1 s1.length cap1) := ⟨(blk_cell K_p0'.out 0).trans (one0 _), (blk_cell K_p1'.out 0).trans (one0 _)⟩
          refine hK.out _ _ (Or.inr d9) ?_
          clear hK K
          try simp only [Act.put, List.setIfInBounds_toArray, List.set_cons_zero, List.set_cons_succ]
          apply Till.take (i := 5) [5, 6, 9, 10]
          · simp only [List.getElem?_toArray, List.getElem?_cons_succ, List.getElem?_cons_zero]
            rfl
          · kernel_rfl
          · kernel_rfl
          · kernel_rfl
          · kernel_rfl
          · exact fun _ _ _ h => h
          · first
              | exact Or.inr ⟨by rfl, rfl⟩
              | (refine Or.inl ⟨by rfl, fun wq hwq => ?_⟩
                 dsimp only at hwq
                 go_simp
                 first
                   | done
                   | rfl)
          · exact d9
          simp only [Act.put, List.setIfInBounds_toArray, List.set_cons_zero, List.set_cons_succ]
          apply Till.take (i := 6) [6, 9, 10]
          · simp only [List.getElem?_toArray, List.getElem?_cons_succ, List.getElem?_cons_zero]
            rfl
          · kernel_rfl
          · kernel_rfl
          · kernel_rfl
          · kernel_rfl
          · exact fun _ _ _ h => h
          · first
              | exact Or.inr ⟨by rfl, rfl⟩
              | (refine Or.inl ⟨by rfl, fun wq hwq => ?_⟩
                 dsimp only at hwq
                 go_simp
                 first
                   | done
                   | rfl)
          · exact d9
          simp only [Act.put, List.setIfInBounds_toArray, List.set_cons_zero, List.set_cons_succ]
          apply Till.take (i := 7) [7, 10]
          · simp only [List.getElem?_toArray, List.getElem?_cons_succ, List.getElem?_cons_zero]
            rfl
          · kernel_rfl
          · kernel_rfl
          · kernel_rfl
          · kernel_rfl
          · exact fun _ _ _ h => h
          · first
              | exact Or.inr ⟨by rfl, rfl⟩
              | (refine Or.inl ⟨by rfl, fun wq hwq => ?_⟩
                 dsimp only at hwq
                 go_simp
                 first
                   | done
                   | rfl)
          · exact d9
          simp only [Act.put, List.setIfInBounds_toArray, List.set_cons_zero, List.set_cons_succ]
          have cB := blk_cell KB.out 0
          have fB := blk_free KB.out 0
          rw [one0] at cB
          obtain ⟨hD8, _, k8⟩ := store1 KB.out (.slice a_9 L_9 c_9)
          have d99 : (y9_.setCell ⟨y1_.heap.size, 0, none⟩ (.slice a_9 L_9 c_9)).cell? ⟨w.heap.size, 0, none⟩ = some (.slice a0 s0.length cap0) ∧ (y9_.setCell ⟨y1_.heap.size, 0, none⟩ (.slice a_9 L_9 c_9)).cell? ⟨w.heap.size + 1, 0, none⟩ = some (.slice a1 s1.length cap1) := ⟨(blk_cell ((k8.block (w.heap.size) (lt_of_block K_p0'.out) (by have := HBB.out; have := lt_of_block K_p0.out; omega)).trans K_p0'.out) 0).trans (one0 _), (blk_cell ((k8.block (w.heap.size + 1) (lt_of_block K_p1'.out) (by have := HBB.out; have := lt_of_block K_p1.out; omega)).trans K_p1'.out) 0).trans (one0 _)⟩
          apply Till.one (i := 9)
          · kernel_rfl
          · simp only [List.getElem?_toArray, List.getElem?_cons_succ, List.getElem?_cons_zero]
            rfl
          intro K hK
          go_simp
          skip
          refine hK.out _ _ (Or.inr d99) ?_
          clear hK K
          try simp only [Act.put, List.setIfInBounds_toArray, List.set_cons_zero, List.set_cons_succ]
          obtain ⟨W8, hW8⟩ : ∃ W8, W8 = (y9_.setCell ⟨y1_.heap.size, 0, none⟩ (.slice a_9 L_9 c_9)) := ⟨_, rfl⟩
          have hs8 : W8.heap.size = y9_.heap.size := by rw [hW8, World.setCell_size]
          rw [← hW8] at hD8 k8 d99 ⊢
          clear hW8
          apply Till.one (i := 10)
          · kernel_rfl
          · simp only [List.getElem?_toArray, List.getElem?_cons_succ, List.getElem?_cons_zero]
            rfl
          intro K hK
          go_simp
          skip
          refine hK.out _ _ (Or.inl (by rfl)) ?_
          clear hK K
          try simp only [Act.put, List.setIfInBounds_toArray, List.set_cons_zero, List.set_cons_succ]
          refine Till.done (by kernel_rfl) ?_ _
          have hpos : y1_.heap.size < y8_.heap.size ∨ y9_.heap.size ≤ y1_.heap.size := by first | exact Or.inl HBl.out | exact Or.inr (Nat.le_refl _)
          have hT := T_9.out.keptF k8 (fun b hb => by unfold ival at hb; omega)
          have hBl := HC.out.trans (k8.below (B := w20_.heap.size) (fun b hb => by have := HBB.out; omega) HC.out.size)
          have hSh := HSh.out
          have hLo := HLo.out
          have hHi := HHi.out
          have hBB := HBB.out
          have hHi8 : y9_.heap.size ≤ W8.heap.size := by omega
          clear cB fB d99 k8 hs8 hHi
          go_wp2_with fail
          go_meet
          case rel => exact ⟨_, y8_.heap.size, y9_.heap.size, _, _, _, rfl, rfl, hT, hD8, hLo, hSh, hHi8, hpos, hBB, hBl⟩
      ·
        intro K hK
        go_simp
        have hbx : Below y0_.heap.size y0_ (y0_.alloc (.cells #[.slice none 0 0] 39)) := (Below.refl _ _).alloc (Nat.le_refl _) _
        replace A0' := Lib.hid (A0'.out.behind (hbx.mono (Nat.le_trans HB.out.size HC.out.size)))
        replace K_p0' := Lib.hid ((hbx.block (w.heap.size) (lt_of_block K_p0'.out)).trans K_p0'.out)
        replace A1' := Lib.hid (A1'.out.behind (hbx.mono (Nat.le_trans HB.out.size HC.out.size)))
        replace K_p1' := Lib.hid ((hbx.block (w.heap.size + 1) (lt_of_block K_p1'.out)).trans K_p1'.out)
        have HBB : Hid (w20_.heap.size ≤ y0_.heap.size) := Lib.hid HC.out.size
        replace HC := Lib.hid (HC.out.trans (hbx.mono HC.out.size))
        have KB := Lib.hid (heap_alloc_new y0_ (.cells #[.slice none 0 0] 39))
        clear hbx
        have d10 : (y0_.alloc (.cells #[.slice none 0 0] 39)).cell? ⟨w.heap.size, 0, none⟩ = some (.slice a0 s0.length cap0) ∧ (y0_.alloc (.cells #[.slice none 0 0] 39)).cell? ⟨w.heap.size + 1, 0, none⟩ = some (.slice a1 s1.length cap1) := ⟨(blk_cell K_p0'.out 0).trans (one0 _), (blk_cell K_p1'.out 0).trans (one0 _)⟩
        obtain ⟨y10_, hy⟩ : ∃ y, y = (y0_.alloc (.cells #[.slice none 0 0] 39)) := ⟨_, rfl⟩
        rw [← hy] at A0' K_p0' A1' K_p1' HC KB d10  ⊢
        clear hy
        refine hK.out _ _ (Or.inr d10) ?_
        clear hK K
        try simp only [Act.put, List.setIfInBounds_toArray, List.set_cons_zero, List.set_cons_succ]
        apply Till.one (i := 1)
        · kernel_rfl
        · simp only [List.getElem?_toArray, List.getElem?_cons_succ, List.getElem?_cons_zero]
          rfl
        intro K hK
        go_simp
        refine (toDatabase_any A0'.out (Nat.le_trans HB.out.size HC.out.size) (by omega)).mono ?_
        rintro e' y11_ ⟨vt, he, hO, hb⟩
        subst he
        obtain ⟨L_0, hL⟩ : ∃ L, L = (s0).length := ⟨_, rfl⟩
        obtain ⟨a_0, c_0, hv, _⟩ := hO.open
        rw [← hL] at hv
        clear hL
        subst hv
        have hbx : Below y10_.heap.size y10_ y11_ := hb
        replace A0' := Lib.hid (A0'.out.behind (hbx.mono (Nat.le_trans HB.out.size HC.out.size)))
        replace K_p0' := Lib.hid ((hbx.block (w.heap.size) (lt_of_block K_p0'.out)).trans K_p0'.out)
        replace A1' := Lib.hid (A1'.out.behind (hbx.mono (Nat.le_trans HB.out.size HC.out.size)))
        replace K_p1' := Lib.hid ((hbx.block (w.heap.size + 1) (lt_of_block K_p1'.out)).trans K_p1'.out)
        replace KB := Lib.hid ((hbx.block _ (lt_of_block KB.out)).trans KB.out)
        replace HC := Lib.hid (HC.out.trans (hbx.mono HC.out.size))
        have T_0 := Lib.hid hO
        clear hO hb hbx
        have d11 : y11_.cell? ⟨w.heap.size, 0, none⟩ = some (.slice a0 s0.length cap0) ∧ y11_.cell? ⟨w.heap.size + 1, 0, none⟩ = some (.slice a1 s1.length cap1) := ⟨(blk_cell K_p0'.out 0).trans (one0 _), (blk_cell K_p1'.out 0).trans (one0 _)⟩
        refine hK.out _ _ (Or.inr d11) ?_
        clear hK K
        try simp only [Act.put, List.setIfInBounds_toArray, List.set_cons_zero, List.set_cons_succ]
        apply Till.one (i := 3)
        · kernel_rfl
        · simp only [List.getElem?_toArray, List.getElem?_cons_succ, List.getElem?_cons_zero]
          rfl
        intro K hK
        go_simp
        refine (toDatabase_any A1'.out (Nat.le_trans HB.out.size HC.out.size) (by omega)).mono ?_
        rintro e' y12_ ⟨vt, he, hO, hb⟩
        subst he
        obtain ⟨L_1, hL⟩ : ∃ L, L = (s1).length := ⟨_, rfl⟩
        obtain ⟨a_1, c_1, hv, _⟩ := hO.open
        rw [← hL] at hv
        clear hL
        subst hv
        have hbx : Below y11_.heap.size y11_ y12_ := hb
        replace A0' := Lib.hid (A0'.out.behind (hbx.mono (Nat.le_trans HB.out.size HC.out.size)))
        replace K_p0' := Lib.hid ((hbx.block (w.heap.size) (lt_of_block K_p0'.out)).trans K_p0'.out)
        replace A1' := Lib.hid (A1'.out.behind (hbx.mono (Nat.le_trans HB.out.size HC.out.size)))
        replace K_p1' := Lib.hid ((hbx.block (w.heap.size + 1) (lt_of_block K_p1'.out)).trans K_p1'.out)
        replace T_0 := Lib.hid (T_0.out.next hbx)
        replace KB := Lib.hid ((hbx.block _ (lt_of_block KB.out)).trans KB.out)
        replace HC := Lib.hid (HC.out.trans (hbx.mono HC.out.size))
        have T_1 := Lib.hid hO
        clear hO hb hbx
        have d12 : y12_.cell? ⟨w.heap.size, 0, none⟩ = some (.slice a0 s0.length cap0) ∧ y12_.cell? ⟨w.heap.size + 1, 0, none⟩ = some (.slice a1 s1.length cap1) := ⟨(blk_cell K_p0'.out 0).trans (one0 _), (blk_cell K_p1'.out 0).trans (one0 _)⟩
        refine hK.out _ _ (Or.inr d12) ?_
        clear hK K
        try simp only [Act.put, List.setIfInBounds_toArray, List.set_cons_zero, List.set_cons_succ]
        apply Till.one (i := 4)
        · kernel_rfl
        · simp only [List.getElem?_toArray, List.getElem?_cons_succ, List.getElem?_cons_zero]
          rfl
        intro K hK
        go_simp
        refine (impl_aw T_0.out.rd2 T_1.out.rd2 (Nat.le_refl _) (Nat.le_refl _) (by omega) (by omega)).mono ?_
        rintro e' y13_ ⟨vt, he, hO, hb⟩
        subst he
        obtain ⟨L_9, hL⟩ : ∃ L, L = ((xd s0 s1)).length := ⟨_, rfl⟩
        obtain ⟨a_9, c_9, hv, _⟩ := hO.open
        rw [← hL] at hv
        clear hL
        subst hv
        have HLo : Hid (w20_.heap.size ≤ y12_.heap.size) := Lib.hid HC.out.size
        have HBl : Hid (y0_.heap.size < y12_.heap.size) := Lib.hid (lt_of_block KB.out)
        have hbx : Below y12_.heap.size y12_ y13_ := hb
        replace A0' := Lib.hid (A0'.out.behind (hbx.mono (Nat.le_trans HB.out.size HC.out.size)))
        replace K_p0' := Lib.hid ((hbx.block (w.heap.size) (lt_of_block K_p0'.out)).trans K_p0'.out)
        replace A1' := Lib.hid (A1'.out.behind (hbx.mono (Nat.le_trans HB.out.size HC.out.size)))
        replace K_p1' := Lib.hid ((hbx.block (w.heap.size + 1) (lt_of_block K_p1'.out)).trans K_p1'.out)
        replace KB := Lib.hid ((hbx.block _ (lt_of_block KB.out)).trans KB.out)
        replace HC := Lib.hid (HC.out.trans (hbx.mono HC.out.size))
        have HSh : Hid (y12_.heap.size ≤ y13_.heap.size) := Lib.hid hb.size
        have T_9 := Lib.hid hO
        have HHi : Hid (y13_.heap.size ≤ y13_.heap.size) := Lib.hid (Nat.le_refl _)
        clear hO hb hbx
        have d13 : y13_.cell? ⟨w.heap.size, 0, none⟩ = some (.slice a0 s0.length cap0) ∧ y13_.cell? ⟨w.heap.size + 1, 0, none⟩ = some (.slice a1 s1.length cap1) := ⟨(blk_cell K_p0'.out 0).trans (one0 _), (blk_cell K_p1'.out 0).trans (one0 _)⟩
        refine hK.out _ _ (Or.inr d13) ?_
        clear hK K
        try simp only [Act.put, List.setIfInBounds_toArray, List.set_cons_zero, List.set_cons_succ]
        apply Till.take (i := 5) [5, 6, 9, 10]
        · simp only [List.getElem?_toArray, List.getElem?_cons_succ, List.getElem?_cons_zero]
          rfl
        · kernel_rfl
        · kernel_rfl
        · kernel_rfl
        · kernel_rfl
        · exact fun _ _ _ h => h
        · first
            | exact Or.inr ⟨by rfl, rfl⟩
            | (refine Or.inl ⟨by rfl, fun wq hwq => ?_⟩
               dsimp only at hwq
               go_simp
               first
                 | done
                 | rfl)
        · exact d13
        simp only [Act.put, List.setIfInBounds_toArray, List.set_cons_zero, List.set_cons_succ]
        apply Till.take (i := 6) [6, 9, 10]
        · simp only [List.getElem?_toArray, List.getElem?_cons_succ, List.getElem?_cons_zero]
          rfl
        · kernel_rfl
        · kernel_rfl
        · kernel_rfl
        · kernel_rfl
        · exact fun _ _ _ h => h
        · first
            | exact Or.inr ⟨by rfl, rfl⟩
            | (refine Or.inl ⟨by rfl, fun wq hwq => ?_⟩
               dsimp only at hwq
               go_simp
               first
                 | done
                 | rfl)
        · exact d13
        simp only [Act.put, List.setIfInBounds_toArray, List.set_cons_zero, List.set_cons_succ]
        apply Till.take (i := 7) [7, 10]
        · simp only [List.getElem?_toArray, List.getElem?_cons_succ, List.getElem?_cons_zero]
          rfl
        · kernel_rfl
        · kernel_rfl
        · kernel_rfl
        · kernel_rfl
        · exact fun _ _ _ h => h
        · first
            | exact Or.inr ⟨by rfl, rfl⟩
            | (refine Or.inl ⟨by rfl, fun wq hwq => ?_⟩
               dsimp only at hwq
               go_simp
               first
                 | done
                 | rfl)
        · exact d13
        simp only [Act.put, List.setIfInBounds_toArray, List.set_cons_zero, List.set_cons_succ]
        have cB := blk_cell KB.out 0
        have fB := blk_free KB.out 0
        rw [one0] at cB
        obtain ⟨hD8, _, k8⟩ := store1 KB.out (.slice a_9 L_9 c_9)
        have d99 : (y13_.setCell ⟨y0_.heap.size, 0, none⟩ (.slice a_9 L_9 c_9)).cell? ⟨w.heap.size, 0, none⟩ = some (.slice a0 s0.length cap0) ∧ (y13_.setCell ⟨y0_.heap.size, 0, none⟩ (.slice a_9 L_9 c_9)).cell? ⟨w.heap.size + 1, 0, none⟩ = some (.slice a1 s1.length cap1) := ⟨(blk_cell ((k8.block (w.heap.size) (lt_of_block K_p0'.out) (by have := HBB.out; have := lt_of_block K_p0.out; omega)).trans K_p0'.out) 0).trans (one0 _), (blk_cell ((k8.block (w.heap.size + 1) (lt_of_block K_p1'.out) (by have := HBB.out; have := lt_of_block K_p1.out; omega)).trans K_p1'.out) 0).trans (one0 _)⟩
        apply Till.one (i := 9)
        · kernel_rfl
        · simp only [List.getElem?_toArray, List.getElem?_cons_succ, List.getElem?_cons_zero]
          rfl
        intro K hK
        go_simp
        skip
        refine hK.out _ _ (Or.inr d99) ?_
        clear hK K
        try simp only [Act.put, List.setIfInBounds_toArray, List.set_cons_zero, List.set_cons_succ]
        obtain ⟨W8, hW8⟩ : ∃ W8, W8 = (y13_.setCell ⟨y0_.heap.size, 0, none⟩ (.slice a_9 L_9 c_9)) := ⟨_, rfl⟩
        have hs8 : W8.heap.size = y13_.heap.size := by rw [hW8, World.setCell_size]
        rw [← hW8] at hD8 k8 d99 ⊢
        clear hW8
        apply Till.one (i := 10)
        · kernel_rfl
        · simp only [List.getElem?_toArray, List.getElem?_cons_succ, List.getElem?_cons_zero]
          rfl
        intro K hK
        go_simp
        skip
        refine hK.out _ _ (Or.inl (by rfl)) ?_
        clear hK K
        try simp only [Act.put, List.setIfInBounds_toArray, List.set_cons_zero, List.set_cons_succ]
        refine Till.done (by kernel_rfl) ?_ _
        have hpos : y0_.heap.size < y12_.heap.size ∨ y13_.heap.size ≤ y0_.heap.size := by first | exact Or.inl HBl.out | exact Or.inr (Nat.le_refl _)
        have hT := T_9.out.keptF k8 (fun b hb => by unfold ival at hb; omega)
        have hBl := HC.out.trans (k8.below (B := w20_.heap.size) (fun b hb => by have := HBB.out; omega) HC.out.size)
        have hSh := HSh.out
        have hLo := HLo.out
        have hHi := HHi.out
        have hBB := HBB.out
        have hHi8 : y13_.heap.size ≤ W8.heap.size := by omega
        clear cB fB d99 k8 hs8 hHi
        go_wp2_with fail
        go_meet
        case rel => exact ⟨_, y12_.heap.size, y13_.heap.size, _, _, _, rfl, rfl, hT, hD8, hLo, hSh, hHi8, hpos, hBB, hBl⟩
    case rest =>
      obtain ⟨B_h0, lo_h0, hi_h0, a_h0, L_h0, c_h0, rfl, rfl, hO, hK, h1, h2, h3, h4, h5, hb⟩ := hcut
      obtain ⟨w21_, hw⟩ : ∃ x, x = wc := ⟨_, rfl⟩
      rw [← hw] at hO hK h3 hb ⊢
      clear hw
      have D_h0 := Lib.hid (Nat.le_trans HB.out.size h1)
      have S_h0 := Lib.hid h3
      replace A0 := Lib.hid (A0.out.behind (hb.mono HB.out.size))
      replace A1 := Lib.hid (A1.out.behind (hb.mono HB.out.size))
      replace O_w0 := Lib.hid (O_w0.out.next hb)
      replace S_w0 := Lib.hid (Nat.le_trans S_w0.out hb.size)
      replace O_g0 := Lib.hid (O_g0.out.next hb)
      replace S_g0 := Lib.hid (Nat.le_trans S_g0.out hb.size)
      replace K_p0 := Lib.hid ((hb.block (w.heap.size) (lt_of_block K_p0.out)).trans K_p0.out)
      replace K_p1 := Lib.hid ((hb.block (w.heap.size + 1) (lt_of_block K_p1.out)).trans K_p1.out)
      replace K_w0 := Lib.hid ((hb.block (B_w0) (lt_of_block K_w0.out)).trans K_w0.out)
      replace K_g0 := Lib.hid ((hb.block (w9_.heap.size) (lt_of_block K_g0.out)).trans K_g0.out)
      replace HB := Lib.hid (HB.out.trans (hb.mono HB.out.size))
      clear hb
      have O_h0 := Lib.hid hO
      have K_h0 := Lib.hid hK
      have R_h0 := Lib.hid (lt_of_block K_h0.out)
      clear hO hK h1 h2 h3 h4 h5
      clear A0
      clear K_p0 R_p0
      clear A1
      clear K_p1 R_p1
      -- ('eq', 'Db', ('own', 'h0'), ('own', 'w0'))
      have k_w0 := blk_cell K_w0.out 0
      rw [one0] at k_w0
      have k_g0 := blk_cell K_g0.out 0
      rw [one0] at k_g0
      have k_h0 := blk_cell K_h0.out 0
      rw [one0] at k_h0
      go_wp2_with fail
      clear k_w0 k_g0 k_h0
      refine (eqDatabase_same O_h0.out.rd2 O_w0.out.rd2 (Nat.le_refl _) (Nat.le_refl _)).mono ?_
      rintro e w22_ ⟨he, hb⟩
      subst he
      replace O_w0 := Lib.hid (O_w0.out.next hb)
      replace S_w0 := Lib.hid (Nat.le_trans S_w0.out hb.size)
      replace O_g0 := Lib.hid (O_g0.out.next hb)
      replace S_g0 := Lib.hid (Nat.le_trans S_g0.out hb.size)
      replace O_h0 := Lib.hid (O_h0.out.next hb)
      replace S_h0 := Lib.hid (Nat.le_trans S_h0.out hb.size)
      replace K_w0 := Lib.hid ((hb.block (B_w0) (lt_of_block K_w0.out)).trans K_w0.out)
      replace K_g0 := Lib.hid ((hb.block (w9_.heap.size) (lt_of_block K_g0.out)).trans K_g0.out)
      replace K_h0 := Lib.hid ((hb.block (B_h0) (lt_of_block K_h0.out)).trans K_h0.out)
      replace HB := Lib.hid (HB.out.trans (hb.mono HB.out.size))
      clear hb
      clear O_w0 S_w0 D_w0
      clear P_w0_g0
      clear K_w0 R_w0
      clear O_h0 S_h0 D_h0
      clear K_h0 R_h0
      -- ('set', 'q', '1')
      -- ('held', 'q', 'Db', 'g0', 'q')
      have k_g0 := blk_cell K_g0.out 0
      rw [one0] at k_g0
      go_wp2_with fail
      clear k_g0
      refine (heldDatabase_any (k0 := 1) O_g0.out.rd2 (Nat.le_refl _) (by omega) (by have := HK14.out; omega)).mono ?_
      rintro e w23_ ⟨he, hb⟩
      rw [← HK14.out] at he
      subst he
      replace O_g0 := Lib.hid (O_g0.out.next hb)
      replace S_g0 := Lib.hid (Nat.le_trans S_g0.out hb.size)
      replace K_g0 := Lib.hid ((hb.block (w9_.heap.size) (lt_of_block K_g0.out)).trans K_g0.out)
      replace HB := Lib.hid (HB.out.trans (hb.mono HB.out.size))
      clear hb
      clear O_g0 S_g0 D_g0
      clear K_g0 R_g0
      go_wp2_with fail
      go_ret
      exact ⟨rfl, HB.out⟩

end Go.Proofs.Ytdipignajccdcaa
