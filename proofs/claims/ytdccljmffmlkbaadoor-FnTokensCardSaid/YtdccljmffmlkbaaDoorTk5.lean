/- Blind tokens: the program's FinishToken. No conditions but numbers that a machine holds. -/
import Derived.Test.YtdccljmffmlkbaaDoorTk4
namespace Go.Proofs.YtdccljmffmlkbaaDoor
open Go Go.RowKit
set_option linter.unusedVariables false
set_option maxRecDepth 20000
attribute [local irreducible] kh kid pwm tcm pw chl

set_option maxHeartbeats 16000000 in
set_option maxRecDepth 20000 in
/-- impl.FinishToken. -/
theorem impl_fn {w : World} {n b k e c r : Int} (hn : (Lit.int .i64 n).wf = true) (hbw : (Lit.int .i64 b).wf = true) (hk : (Lit.int .i64 k).wf = true) (he : (Lit.int .i64 e).wf = true) (hc : (Lit.int .i64 c).wf = true) (hr : (Lit.int .i64 r).wf = true) :
    Calls Tryd.prog 30 #[.int .i64 n, .int .i64 b, .int .i64 k, .agg #[.int .i64 e, .int .i64 c, .int .i64 r]] w fun x w' => x = .returned (.tuple #[.agg #[.int .i64 (fnS n b k e c r), .int .i64 (fnV n b k e c r)], .bool (fnok n b k e c r)]) ∧ Below w.heap.size w w' := by
  have HN := Lib.hid hn
  have HBw := Lib.hid hbw
  have HK := Lib.hid hk
  have HEw := Lib.hid he
  have HCw := Lib.hid hc
  have HR := Lib.hid hr
  obtain ⟨t, ht⟩ : ∃ t, t = fnok n b k e c r := ⟨_, rfl⟩
  have HT := Lib.hid ht
  obtain ⟨a0, b0, hB⟩ := gtwo w (.cells #[.int .i64 e, .int .i64 c, .int .i64 r] 47) (.cells #[.int .i64 0, .int .i64 0] 51)
  obtain ⟨W, hW⟩ : ∃ W, W = (w.alloc (.cells #[.int .i64 e, .int .i64 c, .int .i64 r] 47)).alloc (.cells #[.int .i64 0, .int .i64 0] 51) := ⟨_, rfl⟩
  rw [← hW] at a0 b0 hB
  have HW := Lib.hid hW
  have HA0 := Lib.hid a0
  have HC0 := Lib.hid b0
  have HB0 := Lib.hid hB
  clear hn hbw hk he hc hr ht a0 b0 hB hW
  go_enter Tryd.func30, Tryd.ntmps30
  go_wp2_with fail
  rw [← HW.out]
  go_cut [10, 11] (fun p q wx => ∃ (E : Nat) (S A K9 X3 C R X : Int), p = .pointer (some ⟨E, 0, none⟩) ∧ q = .bool t ∧ wx.heap[E]? = some (.cells #[.int .i64 S, .int .i64 A, .int .i64 K9, .int .i64 X3, .int .i64 C, .int .i64 R, .int .i64 X] 85) ∧ (S = fnS n b k e c r ∧ X = fnV n b k e c r) ∧ wx.heap[w.heap.size + 1]? = some (.cells #[.int .i64 0, .int .i64 0] 51) ∧ Below w.heap.size w wx)
  case first =>
    refine region_till (fun w' => w'.cell? ⟨w.heap.size, 0, none⟩ = some (.int .i64 e) ∧ w'.cell? ⟨w.heap.size, 1, none⟩ = some (.int .i64 c) ∧ w'.cell? ⟨w.heap.size, 2, none⟩ = some (.int .i64 r)) 12 (by kernel_rfl) ?_
    obtain ⟨wd, hwd⟩ : ∃ x, x = W.drew := ⟨_, rfl⟩
    have HB : Hid (Below w.heap.size w wd) := Lib.hid (by rw [hwd]; exact HB0.out.drew)
    have HA : Hid (wd.heap[w.heap.size]? = some (.cells #[.int .i64 e, .int .i64 c, .int .i64 r] 47)) := Lib.hid (by rw [hwd]; exact HA0.out)
    have HC : Hid (wd.heap[w.heap.size + 1]? = some (.cells #[.int .i64 0, .int .i64 0] 51)) := Lib.hid (by rw [hwd]; exact HC0.out)
    have HS : Hid (∀ w' : World, w'.heap[w.heap.size]? = some (.cells #[.int .i64 e, .int .i64 c, .int .i64 r] 47) → w'.cell? ⟨w.heap.size, 0, none⟩ = some (.int .i64 e) ∧ w'.cell? ⟨w.heap.size, 1, none⟩ = some (.int .i64 c) ∧ w'.cell? ⟨w.heap.size, 2, none⟩ = some (.int .i64 r)) := Lib.hid (fun w' h => by obtain ⟨h0, h1, h2, _⟩ := ptc h; exact ⟨h0, h1, h2⟩)
    have d0 := HS.out _ HA.out
    rw [← hwd]
    clear hwd HB0 HA0 HC0
    apply Till.take (i := 0) [0, 4, 6, 7, 9, 12]
    · simp only [List.getElem?_toArray, List.getElem?_cons_zero]
      rfl
    · kernel_rfl
    · kernel_rfl
    · kernel_rfl
    · kernel_rfl
    · exact fun _ _ _ h => h
    · first
        | exact Or.inr ⟨by rfl, rfl⟩
        | (refine Or.inl ⟨by rfl, fun wq hwq => ?_⟩
           dsimp only at hwq
           go_simp
           first
             | done
             | rfl)
    · exact d0
    simp only [Act.put, List.setIfInBounds_toArray, List.set_cons_zero, List.set_cons_succ]
    apply Till.take (i := 1) [1, 4, 6, 7, 9, 12]
    · simp only [List.getElem?_toArray, List.getElem?_cons_succ, List.getElem?_cons_zero]
      rfl
    · kernel_rfl
    · kernel_rfl
    · kernel_rfl
    · kernel_rfl
    · exact fun _ _ _ h => h
    · first
        | exact Or.inr ⟨by rfl, rfl⟩
        | (refine Or.inl ⟨by rfl, fun wq hwq => ?_⟩
           dsimp only at hwq
           go_simp
           first
             | done
             | rfl)
    · exact d0
    simp only [Act.put, List.setIfInBounds_toArray, List.set_cons_zero, List.set_cons_succ]
    apply Till.take (i := 2) [2, 4, 6, 7, 9, 12]
    · simp only [List.getElem?_toArray, List.getElem?_cons_succ, List.getElem?_cons_zero]
      rfl
    · kernel_rfl
    · kernel_rfl
    · kernel_rfl
    · kernel_rfl
    · exact fun _ _ _ h => h
    · first
        | exact Or.inr ⟨by rfl, rfl⟩
        | (refine Or.inl ⟨by rfl, fun wq hwq => ?_⟩
           dsimp only at hwq
           go_simp
           first
             | done
             | rfl)
    · exact d0
    simp only [Act.put, List.setIfInBounds_toArray, List.set_cons_zero, List.set_cons_succ]
    apply Till.take (i := 3) [3, 4, 6, 7, 9, 12]
    · simp only [List.getElem?_toArray, List.getElem?_cons_succ, List.getElem?_cons_zero]
      rfl
    · kernel_rfl
    · kernel_rfl
    · kernel_rfl
    · kernel_rfl
    · exact fun _ _ _ h => h
    · first
        | exact Or.inr ⟨by rfl, rfl⟩
        | (refine Or.inl ⟨by rfl, fun wq hwq => ?_⟩
           dsimp only at hwq
           go_simp
           first
             | done
             | rfl)
    · exact d0
    simp only [Act.put, List.setIfInBounds_toArray, List.set_cons_zero, List.set_cons_succ]
    apply Till.take (i := 4) [4, 6, 7, 9, 12]
    · simp only [List.getElem?_toArray, List.getElem?_cons_succ, List.getElem?_cons_zero]
      rfl
    · kernel_rfl
    · kernel_rfl
    · kernel_rfl
    · kernel_rfl
    · exact fun _ _ _ h => h
    · first
        | exact Or.inr ⟨by rfl, rfl⟩
        | (refine Or.inl ⟨by rfl, fun wq hwq => ?_⟩
           dsimp only at hwq
           go_simp
           first
             | done
             | rfl)
    · exact d0
    simp only [Act.put, List.setIfInBounds_toArray, List.set_cons_zero, List.set_cons_succ]
    apply Till.two (i := 5) (j := 10)
    · kernel_rfl
    · simp only [List.getElem?_toArray, List.getElem?_cons_succ, List.getElem?_cons_zero]
      rfl
    · simp only [List.getElem?_toArray, List.getElem?_cons_succ, List.getElem?_cons_zero]
      rfl
    · intro K0 hK
      go_simp
      refine (steps_any).mono ?_
      rintro e' w3 ⟨he, hf, hb⟩
      obtain ⟨B, hBn⟩ : ∃ B, B = wd.heap.size := ⟨_, rfl⟩
      rw [← hBn] at he hf
      subst he
      have HF := Lib.hid hf
      clear hf hBn
      replace HB := Lib.hid (HB.out.trans (hb.mono HB.out.size))
      replace HA := Lib.hid ((hb.block _ (lt_of_block HA.out)).trans HA.out)
      replace HC := Lib.hid ((hb.block _ (lt_of_block HC.out)).trans HC.out)
      clear hb d0
      have d0 := HS.out w3 HA.out
      refine hK.out _ _ (Or.inr d0) ?_
      clear hK K0
      try simp only [Act.put, List.setIfInBounds_toArray, List.set_cons_zero, List.set_cons_succ]
      apply Till.two (i := 6) (j := 10)
      · kernel_rfl
      · simp only [List.getElem?_toArray, List.getElem?_cons_succ, List.getElem?_cons_zero]
        rfl
      · simp only [List.getElem?_toArray, List.getElem?_cons_succ, List.getElem?_cons_zero]
        rfl
      · intro K0 hK
        go_simp
        refine (take3 (x := 0) HN.out HBw.out HK.out HEw.out HCw.out HR.out HF.out).mono ?_
        rintro e' w4 ⟨S, A, K9, X3, C, R, X, he, ⟨hS, hX⟩, hb⟩
        rw [← HT.out] at he
        subst he
        have HSX := Lib.hid (And.intro hS hX)
        clear hS hX HF
        replace HB := Lib.hid (HB.out.trans (hb.mono HB.out.size))
        replace HA := Lib.hid ((hb.block _ (lt_of_block HA.out)).trans HA.out)
        replace HC := Lib.hid ((hb.block _ (lt_of_block HC.out)).trans HC.out)
        clear hb d0
        have d0 := HS.out w4 HA.out
        refine hK.out _ _ (Or.inr d0) ?_
        clear hK K0
        try simp only [Act.put, List.setIfInBounds_toArray, List.set_cons_zero, List.set_cons_succ]
        apply Till.take (i := 7) [7, 9, 12]
        · simp only [List.getElem?_toArray, List.getElem?_cons_succ, List.getElem?_cons_zero]
          rfl
        · kernel_rfl
        · kernel_rfl
        · kernel_rfl
        · kernel_rfl
        · exact fun _ _ _ h => h
        · first
            | exact Or.inr ⟨by rfl, rfl⟩
            | (refine Or.inl ⟨by rfl, fun wq hwq => ?_⟩
               dsimp only at hwq
               go_simp
               first
                 | done
                 | rfl)
        · exact d0
        simp only [Act.put, List.setIfInBounds_toArray, List.set_cons_zero, List.set_cons_succ]
        apply Till.take (i := 8) [8, 11, 12]
        · simp only [List.getElem?_toArray, List.getElem?_cons_succ, List.getElem?_cons_zero]
          rfl
        · kernel_rfl
        · kernel_rfl
        · kernel_rfl
        · kernel_rfl
        · exact fun _ _ _ h => h
        · first
            | exact Or.inr ⟨by rfl, rfl⟩
            | (refine Or.inl ⟨by rfl, fun wq hwq => ?_⟩
               dsimp only at hwq
               go_simp
               first
                 | done
                 | rfl)
        · exact d0
        simp only [Act.put, List.setIfInBounds_toArray, List.set_cons_zero, List.set_cons_succ]
        apply Till.take (i := 9) [9, 12]
        · simp only [List.getElem?_toArray, List.getElem?_cons_succ, List.getElem?_cons_zero]
          rfl
        · kernel_rfl
        · kernel_rfl
        · kernel_rfl
        · kernel_rfl
        · exact fun _ _ _ h => h
        · first
            | exact Or.inr ⟨by rfl, rfl⟩
            | (refine Or.inl ⟨by rfl, fun wq hwq => ?_⟩
               dsimp only at hwq
               go_simp
               first
                 | done
                 | rfl)
        · exact d0
        simp only [Act.put, List.setIfInBounds_toArray, List.set_cons_zero, List.set_cons_succ]
        apply Till.one (i := 10)
        · kernel_rfl
        · simp only [List.getElem?_toArray, List.getElem?_cons_succ, List.getElem?_cons_zero]
          rfl
        intro K hK
        go_simp
        have hb : Below w4.heap.size w4 (w4.alloc (.cells #[.int .i64 0, .int .i64 0, .int .i64 0, .int .i64 0, .int .i64 0, .int .i64 0, .int .i64 0] 85)) := (Below.refl _ _).alloc (Nat.le_refl _) (.cells #[.int .i64 0, .int .i64 0, .int .i64 0, .int .i64 0, .int .i64 0, .int .i64 0, .int .i64 0] 85)
        have HEz := Lib.hid (heap_alloc_new w4 (.cells #[.int .i64 0, .int .i64 0, .int .i64 0, .int .i64 0, .int .i64 0, .int .i64 0, .int .i64 0] 85))
        have HEl := Lib.hid (lt_of_block HC.out)
        replace HB := Lib.hid (HB.out.trans (hb.mono HB.out.size))
        replace HA := Lib.hid ((hb.block _ (lt_of_block HA.out)).trans HA.out)
        replace HC := Lib.hid ((hb.block _ (lt_of_block HC.out)).trans HC.out)
        clear hb d0
        have d0 := HS.out _ HA.out
        refine hK.out _ _ (Or.inr d0) ?_
        clear hK K
        try simp only [Act.put, List.setIfInBounds_toArray, List.set_cons_zero, List.set_cons_succ]
        obtain ⟨wa, hwa⟩ : ∃ x, x = w4.alloc (.cells #[.int .i64 0, .int .i64 0, .int .i64 0, .int .i64 0, .int .i64 0, .int .i64 0, .int .i64 0] 85) := ⟨_, rfl⟩
        obtain ⟨E, hE⟩ : ∃ x, x = w4.heap.size := ⟨_, rfl⟩
        rw [← hwa] at HEz HA HB HC d0 ⊢
        rw [← hE] at HEz HEl ⊢
        have HE := HEz
        clear hwa hE HEz
        obtain ⟨wz, hwz⟩ : ∃ x, x = wa := ⟨_, rfl⟩
        rw [← hwz] at HE HA HB HC d0 ⊢
        clear hwz
        obtain ⟨q0, q1, q2, q3, q4, q5, q6⟩ := pc7 HE.out
        obtain ⟨f0, f1, f2, f3, f4, f5, f6⟩ := pf7 HE.out
        obtain ⟨t1, t3⟩ := pst7 HE.out (.int .i64 S) (.int .i64 A) (.int .i64 K9) (.int .i64 X3) (.int .i64 C) (.int .i64 R) (.int .i64 X)
        have hB9 := HB.out.grown t3 HB.out.size (fun k hk => by injection hk with hk; have := HEl.out; omega)
        have hA9 := (t3.block _ (lt_of_block HA.out) (fun h => by injection h with h; have := HEl.out; omega)).trans HA.out
        have hC9 := (t3.block _ (lt_of_block HC.out) (fun h => by injection h with h; have := HEl.out; omega)).trans HC.out
        have d9 := HS.out _ hA9
        have T1 := Lib.hid t1
        have B9 := Lib.hid hB9
        have C9 := Lib.hid hC9
        clear t1 t3 hB9 hA9 hC9
        apply Till.one (i := 11)
        · kernel_rfl
        · simp only [List.getElem?_toArray, List.getElem?_cons_succ, List.getElem?_cons_zero]
          rfl
        intro K hK
        go_simp
        skip
        refine hK.out _ _ (Or.inr d9) ?_
        clear hK K
        try simp only [Act.put, List.setIfInBounds_toArray, List.set_cons_zero, List.set_cons_succ]
        apply Till.one (i := 12)
        · kernel_rfl
        · simp only [List.getElem?_toArray, List.getElem?_cons_succ, List.getElem?_cons_zero]
          rfl
        intro K hK
        go_simp
        skip
        refine hK.out _ _ (Or.inl (by rfl)) ?_
        clear hK K
        try simp only [Act.put, List.setIfInBounds_toArray, List.set_cons_zero, List.set_cons_succ]
        refine Till.done (by kernel_rfl) ?_ _
        clear q0 q1 q2 q3 q4 q5 q6 f0 f1 f2 f3 f4 f5 f6 d9
        obtain ⟨wy, hwy⟩ : ∃ x, x = ((((((wz.setCell ⟨E, 0, none⟩ (.int .i64 S)).setCell ⟨E, 1, none⟩ (.int .i64 A)).setCell ⟨E, 2, none⟩ (.int .i64 K9)).setCell ⟨E, 3, none⟩ (.int .i64 X3)).setCell ⟨E, 4, none⟩ (.int .i64 C)).setCell ⟨E, 5, none⟩ (.int .i64 R)).setCell ⟨E, 6, none⟩ (.int .i64 X) := ⟨_, rfl⟩
        rw [← hwy] at T1 C9 B9 ⊢
        clear hwy
        go_wp2_with fail
        go_meet
        case rel => exact ⟨E, S, A, K9, X3, C, R, X, rfl, rfl, T1.out, HSX.out, C9.out, B9.out⟩
      · intro K0 hK
        go_simp
        have hb : Below w3.heap.size w3 (w3.alloc (.cells #[.int .i64 0, .int .i64 0, .int .i64 0, .int .i64 0, .int .i64 0, .int .i64 0, .int .i64 0] 85)) := (Below.refl _ _).alloc (Nat.le_refl _) (.cells #[.int .i64 0, .int .i64 0, .int .i64 0, .int .i64 0, .int .i64 0, .int .i64 0, .int .i64 0] 85)
        have HEz := Lib.hid (heap_alloc_new w3 (.cells #[.int .i64 0, .int .i64 0, .int .i64 0, .int .i64 0, .int .i64 0, .int .i64 0, .int .i64 0] 85))
        have HEl := Lib.hid (lt_of_block HC.out)
        replace HB := Lib.hid (HB.out.trans (hb.mono HB.out.size))
        replace HA := Lib.hid ((hb.block _ (lt_of_block HA.out)).trans HA.out)
        replace HC := Lib.hid ((hb.block _ (lt_of_block HC.out)).trans HC.out)
        replace HF := Lib.hid ((hb.block _ (lt_of_block HF.out)).trans HF.out)
        clear hb d0
        have d0 := HS.out _ HA.out
        refine hK.out _ _ (Or.inr d0) ?_
        clear hK K0
        try simp only [Act.put, List.setIfInBounds_toArray, List.set_cons_zero, List.set_cons_succ]
        obtain ⟨wa, hwa⟩ : ∃ x, x = w3.alloc (.cells #[.int .i64 0, .int .i64 0, .int .i64 0, .int .i64 0, .int .i64 0, .int .i64 0, .int .i64 0] 85) := ⟨_, rfl⟩
        obtain ⟨E, hE⟩ : ∃ x, x = w3.heap.size := ⟨_, rfl⟩
        rw [← hwa] at HEz HA HB HC d0 HF ⊢
        rw [← hE] at HEz HEl ⊢
        have HE := HEz
        clear hwa hE HEz
        apply Till.one (i := 6)
        · kernel_rfl
        · simp only [List.getElem?_toArray, List.getElem?_cons_succ, List.getElem?_cons_zero]
          rfl
        intro K hK
        go_simp
        refine (take3 (x := 0) HN.out HBw.out HK.out HEw.out HCw.out HR.out HF.out).mono ?_
        rintro e' w4 ⟨S, A, K9, X3, C, R, X, he, ⟨hS, hX⟩, hb⟩
        rw [← HT.out] at he
        subst he
        have HSX := Lib.hid (And.intro hS hX)
        clear hS hX HF
        replace HB := Lib.hid (HB.out.trans (hb.mono HB.out.size))
        replace HA := Lib.hid ((hb.block _ (lt_of_block HA.out)).trans HA.out)
        replace HC := Lib.hid ((hb.block _ (lt_of_block HC.out)).trans HC.out)
        replace HE := Lib.hid ((hb.block _ (lt_of_block HE.out)).trans HE.out)
        clear hb d0
        have d0 := HS.out w4 HA.out
        refine hK.out _ _ (Or.inr d0) ?_
        clear hK K
        try simp only [Act.put, List.setIfInBounds_toArray, List.set_cons_zero, List.set_cons_succ]
        apply Till.take (i := 7) [7, 9, 12]
        · simp only [List.getElem?_toArray, List.getElem?_cons_succ, List.getElem?_cons_zero]
          rfl
        · kernel_rfl
        · kernel_rfl
        · kernel_rfl
        · kernel_rfl
        · exact fun _ _ _ h => h
        · first
            | exact Or.inr ⟨by rfl, rfl⟩
            | (refine Or.inl ⟨by rfl, fun wq hwq => ?_⟩
               dsimp only at hwq
               go_simp
               first
                 | done
                 | rfl)
        · exact d0
        simp only [Act.put, List.setIfInBounds_toArray, List.set_cons_zero, List.set_cons_succ]
        apply Till.take (i := 8) [8, 11, 12]
        · simp only [List.getElem?_toArray, List.getElem?_cons_succ, List.getElem?_cons_zero]
          rfl
        · kernel_rfl
        · kernel_rfl
        · kernel_rfl
        · kernel_rfl
        · exact fun _ _ _ h => h
        · first
            | exact Or.inr ⟨by rfl, rfl⟩
            | (refine Or.inl ⟨by rfl, fun wq hwq => ?_⟩
               dsimp only at hwq
               go_simp
               first
                 | done
                 | rfl)
        · exact d0
        simp only [Act.put, List.setIfInBounds_toArray, List.set_cons_zero, List.set_cons_succ]
        apply Till.take (i := 9) [9, 12]
        · simp only [List.getElem?_toArray, List.getElem?_cons_succ, List.getElem?_cons_zero]
          rfl
        · kernel_rfl
        · kernel_rfl
        · kernel_rfl
        · kernel_rfl
        · exact fun _ _ _ h => h
        · first
            | exact Or.inr ⟨by rfl, rfl⟩
            | (refine Or.inl ⟨by rfl, fun wq hwq => ?_⟩
               dsimp only at hwq
               go_simp
               first
                 | done
                 | rfl)
        · exact d0
        simp only [Act.put, List.setIfInBounds_toArray, List.set_cons_zero, List.set_cons_succ]
        obtain ⟨wz, hwz⟩ : ∃ x, x = w4 := ⟨_, rfl⟩
        rw [← hwz] at HE HA HB HC d0 ⊢
        clear hwz
        obtain ⟨q0, q1, q2, q3, q4, q5, q6⟩ := pc7 HE.out
        obtain ⟨f0, f1, f2, f3, f4, f5, f6⟩ := pf7 HE.out
        obtain ⟨t1, t3⟩ := pst7 HE.out (.int .i64 S) (.int .i64 A) (.int .i64 K9) (.int .i64 X3) (.int .i64 C) (.int .i64 R) (.int .i64 X)
        have hB9 := HB.out.grown t3 HB.out.size (fun k hk => by injection hk with hk; have := HEl.out; omega)
        have hA9 := (t3.block _ (lt_of_block HA.out) (fun h => by injection h with h; have := HEl.out; omega)).trans HA.out
        have hC9 := (t3.block _ (lt_of_block HC.out) (fun h => by injection h with h; have := HEl.out; omega)).trans HC.out
        have d9 := HS.out _ hA9
        have T1 := Lib.hid t1
        have B9 := Lib.hid hB9
        have C9 := Lib.hid hC9
        clear t1 t3 hB9 hA9 hC9
        apply Till.one (i := 11)
        · kernel_rfl
        · simp only [List.getElem?_toArray, List.getElem?_cons_succ, List.getElem?_cons_zero]
          rfl
        intro K hK
        go_simp
        skip
        refine hK.out _ _ (Or.inr d9) ?_
        clear hK K
        try simp only [Act.put, List.setIfInBounds_toArray, List.set_cons_zero, List.set_cons_succ]
        apply Till.one (i := 12)
        · kernel_rfl
        · simp only [List.getElem?_toArray, List.getElem?_cons_succ, List.getElem?_cons_zero]
          rfl
        intro K hK
        go_simp
        skip
        refine hK.out _ _ (Or.inl (by rfl)) ?_
        clear hK K
        try simp only [Act.put, List.setIfInBounds_toArray, List.set_cons_zero, List.set_cons_succ]
        refine Till.done (by kernel_rfl) ?_ _
        clear q0 q1 q2 q3 q4 q5 q6 f0 f1 f2 f3 f4 f5 f6 d9
        obtain ⟨wy, hwy⟩ : ∃ x, x = ((((((wz.setCell ⟨E, 0, none⟩ (.int .i64 S)).setCell ⟨E, 1, none⟩ (.int .i64 A)).setCell ⟨E, 2, none⟩ (.int .i64 K9)).setCell ⟨E, 3, none⟩ (.int .i64 X3)).setCell ⟨E, 4, none⟩ (.int .i64 C)).setCell ⟨E, 5, none⟩ (.int .i64 R)).setCell ⟨E, 6, none⟩ (.int .i64 X) := ⟨_, rfl⟩
        rw [← hwy] at T1 C9 B9 ⊢
        clear hwy
        go_wp2_with fail
        go_meet
        case rel => exact ⟨E, S, A, K9, X3, C, R, X, rfl, rfl, T1.out, HSX.out, C9.out, B9.out⟩
    · intro K0 hK
      go_simp
      have hb : Below wd.heap.size wd (wd.alloc (.cells #[.int .i64 0, .int .i64 0, .int .i64 0, .int .i64 0, .int .i64 0, .int .i64 0, .int .i64 0] 85)) := (Below.refl _ _).alloc (Nat.le_refl _) (.cells #[.int .i64 0, .int .i64 0, .int .i64 0, .int .i64 0, .int .i64 0, .int .i64 0, .int .i64 0] 85)
      have HEz := Lib.hid (heap_alloc_new wd (.cells #[.int .i64 0, .int .i64 0, .int .i64 0, .int .i64 0, .int .i64 0, .int .i64 0, .int .i64 0] 85))
      have HEl := Lib.hid (lt_of_block HC.out)
      replace HB := Lib.hid (HB.out.trans (hb.mono HB.out.size))
      replace HA := Lib.hid ((hb.block _ (lt_of_block HA.out)).trans HA.out)
      replace HC := Lib.hid ((hb.block _ (lt_of_block HC.out)).trans HC.out)
      clear hb d0
      have d0 := HS.out _ HA.out
      refine hK.out _ _ (Or.inr d0) ?_
      clear hK K0
      try simp only [Act.put, List.setIfInBounds_toArray, List.set_cons_zero, List.set_cons_succ]
      obtain ⟨wa, hwa⟩ : ∃ x, x = wd.alloc (.cells #[.int .i64 0, .int .i64 0, .int .i64 0, .int .i64 0, .int .i64 0, .int .i64 0, .int .i64 0] 85) := ⟨_, rfl⟩
      obtain ⟨E, hE⟩ : ∃ x, x = wd.heap.size := ⟨_, rfl⟩
      rw [← hwa] at HEz HA HB HC d0 ⊢
      rw [← hE] at HEz HEl ⊢
      have HE := HEz
      clear hwa hE HEz
      apply Till.one (i := 5)
      · kernel_rfl
      · simp only [List.getElem?_toArray, List.getElem?_cons_succ, List.getElem?_cons_zero]
        rfl
      intro K hK
      go_simp
      refine (steps_any).mono ?_
      rintro e' w3 ⟨he, hf, hb⟩
      obtain ⟨B, hBn⟩ : ∃ B, B = wa.heap.size := ⟨_, rfl⟩
      rw [← hBn] at he hf
      subst he
      have HF := Lib.hid hf
      clear hf hBn
      replace HB := Lib.hid (HB.out.trans (hb.mono HB.out.size))
      replace HA := Lib.hid ((hb.block _ (lt_of_block HA.out)).trans HA.out)
      replace HC := Lib.hid ((hb.block _ (lt_of_block HC.out)).trans HC.out)
      replace HE := Lib.hid ((hb.block _ (lt_of_block HE.out)).trans HE.out)
      clear hb d0
      have d0 := HS.out w3 HA.out
      refine hK.out _ _ (Or.inr d0) ?_
      clear hK K
      try simp only [Act.put, List.setIfInBounds_toArray, List.set_cons_zero, List.set_cons_succ]
      apply Till.one (i := 6)
      · kernel_rfl
      · simp only [List.getElem?_toArray, List.getElem?_cons_succ, List.getElem?_cons_zero]
        rfl
      intro K hK
      go_simp
      refine (take3 (x := 0) HN.out HBw.out HK.out HEw.out HCw.out HR.out HF.out).mono ?_
      rintro e' w4 ⟨S, A, K9, X3, C, R, X, he, ⟨hS, hX⟩, hb⟩
      rw [← HT.out] at he
      subst he
      have HSX := Lib.hid (And.intro hS hX)
      clear hS hX HF
      replace HB := Lib.hid (HB.out.trans (hb.mono HB.out.size))
      replace HA := Lib.hid ((hb.block _ (lt_of_block HA.out)).trans HA.out)
      replace HC := Lib.hid ((hb.block _ (lt_of_block HC.out)).trans HC.out)
      replace HE := Lib.hid ((hb.block _ (lt_of_block HE.out)).trans HE.out)
      clear hb d0
      have d0 := HS.out w4 HA.out
      refine hK.out _ _ (Or.inr d0) ?_
      clear hK K
      try simp only [Act.put, List.setIfInBounds_toArray, List.set_cons_zero, List.set_cons_succ]
      apply Till.take (i := 7) [7, 9, 12]
      · simp only [List.getElem?_toArray, List.getElem?_cons_succ, List.getElem?_cons_zero]
        rfl
      · kernel_rfl
      · kernel_rfl
      · kernel_rfl
      · kernel_rfl
      · exact fun _ _ _ h => h
      · first
          | exact Or.inr ⟨by rfl, rfl⟩
          | (refine Or.inl ⟨by rfl, fun wq hwq => ?_⟩
             dsimp only at hwq
             go_simp
             first
               | done
               | rfl)
      · exact d0
      simp only [Act.put, List.setIfInBounds_toArray, List.set_cons_zero, List.set_cons_succ]
      apply Till.take (i := 8) [8, 11, 12]
      · simp only [List.getElem?_toArray, List.getElem?_cons_succ, List.getElem?_cons_zero]
        rfl
      · kernel_rfl
      · kernel_rfl
      · kernel_rfl
      · kernel_rfl
      · exact fun _ _ _ h => h
      · first
          | exact Or.inr ⟨by rfl, rfl⟩
          | (refine Or.inl ⟨by rfl, fun wq hwq => ?_⟩
             dsimp only at hwq
             go_simp
             first
               | done
               | rfl)
      · exact d0
      simp only [Act.put, List.setIfInBounds_toArray, List.set_cons_zero, List.set_cons_succ]
      apply Till.take (i := 9) [9, 12]
      · simp only [List.getElem?_toArray, List.getElem?_cons_succ, List.getElem?_cons_zero]
        rfl
      · kernel_rfl
      · kernel_rfl
      · kernel_rfl
      · kernel_rfl
      · exact fun _ _ _ h => h
      · first
          | exact Or.inr ⟨by rfl, rfl⟩
          | (refine Or.inl ⟨by rfl, fun wq hwq => ?_⟩
             dsimp only at hwq
             go_simp
             first
               | done
               | rfl)
      · exact d0
      simp only [Act.put, List.setIfInBounds_toArray, List.set_cons_zero, List.set_cons_succ]
      obtain ⟨wz, hwz⟩ : ∃ x, x = w4 := ⟨_, rfl⟩
      rw [← hwz] at HE HA HB HC d0 ⊢
      clear hwz
      obtain ⟨q0, q1, q2, q3, q4, q5, q6⟩ := pc7 HE.out
      obtain ⟨f0, f1, f2, f3, f4, f5, f6⟩ := pf7 HE.out
      obtain ⟨t1, t3⟩ := pst7 HE.out (.int .i64 S) (.int .i64 A) (.int .i64 K9) (.int .i64 X3) (.int .i64 C) (.int .i64 R) (.int .i64 X)
      have hB9 := HB.out.grown t3 HB.out.size (fun k hk => by injection hk with hk; have := HEl.out; omega)
      have hA9 := (t3.block _ (lt_of_block HA.out) (fun h => by injection h with h; have := HEl.out; omega)).trans HA.out
      have hC9 := (t3.block _ (lt_of_block HC.out) (fun h => by injection h with h; have := HEl.out; omega)).trans HC.out
      have d9 := HS.out _ hA9
      have T1 := Lib.hid t1
      have B9 := Lib.hid hB9
      have C9 := Lib.hid hC9
      clear t1 t3 hB9 hA9 hC9
      apply Till.one (i := 11)
      · kernel_rfl
      · simp only [List.getElem?_toArray, List.getElem?_cons_succ, List.getElem?_cons_zero]
        rfl
      intro K hK
      go_simp
      skip
      refine hK.out _ _ (Or.inr d9) ?_
      clear hK K
      try simp only [Act.put, List.setIfInBounds_toArray, List.set_cons_zero, List.set_cons_succ]
      apply Till.one (i := 12)
      · kernel_rfl
      · simp only [List.getElem?_toArray, List.getElem?_cons_succ, List.getElem?_cons_zero]
        rfl
      intro K hK
      go_simp
      skip
      refine hK.out _ _ (Or.inl (by rfl)) ?_
      clear hK K
      try simp only [Act.put, List.setIfInBounds_toArray, List.set_cons_zero, List.set_cons_succ]
      refine Till.done (by kernel_rfl) ?_ _
      clear q0 q1 q2 q3 q4 q5 q6 f0 f1 f2 f3 f4 f5 f6 d9
      obtain ⟨wy, hwy⟩ : ∃ x, x = ((((((wz.setCell ⟨E, 0, none⟩ (.int .i64 S)).setCell ⟨E, 1, none⟩ (.int .i64 A)).setCell ⟨E, 2, none⟩ (.int .i64 K9)).setCell ⟨E, 3, none⟩ (.int .i64 X3)).setCell ⟨E, 4, none⟩ (.int .i64 C)).setCell ⟨E, 5, none⟩ (.int .i64 R)).setCell ⟨E, 6, none⟩ (.int .i64 X) := ⟨_, rfl⟩
      rw [← hwy] at T1 C9 B9 ⊢
      clear hwy
      go_wp2_with fail
      go_meet
      case rel => exact ⟨E, S, A, K9, X3, C, R, X, rfl, rfl, T1.out, HSX.out, C9.out, B9.out⟩
  case rest =>
    obtain ⟨E, S, A, K9, X3, C, R, X, rfl, rfl, hP, ⟨hS, hX⟩, hC, hb⟩ := hcut
    have HSv := Lib.hid hS
    have HXv := Lib.hid hX
    obtain ⟨c0, _, _, _, _, _, c6⟩ := pc7 hP
    obtain ⟨q0, q1, f0, f1⟩ := pcs hC
    obtain ⟨k9, g9⟩ := pst hC (.int .i64 S) (.int .i64 X)
    obtain ⟨r0, r1, _⟩ := pcs k9
    have HB9 := Lib.hid (hb.grown g9 hb.size (fun k hk => by injection hk with hk; omega))
    clear hP hS hX hC hb k9 g9
    go_wp2_with fail
    exact bodyPost_ret (v := .tuple #[.agg #[.int .i64 S, .int .i64 X], .bool t]) (by simp [results, Tryd.results30, go_sem, r0, r1]) rfl ⟨by rw [HSv.out, HXv.out, HT.out], HB9.out⟩

end Go.Proofs.YtdccljmffmlkbaaDoor
