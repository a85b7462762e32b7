/- Chapter 19's draws: what KeyForStep takes. No conditions but sizes that a machine holds. -/
import Derived.Test.YtlbijjifeaimjaaDraw19b
namespace Go.Proofs.Ytlbijjifeaimjaa
open Go Go.RowKit
set_option linter.unusedVariables false
set_option maxRecDepth 20000
attribute [local irreducible] kh kid

theorem kep_at {e : TypeId} {B g cap n : Nat} {w : World} {xs : Kept} (h : OwnS kepE e B w (.slice (some ⟨g, 0, none⟩) n cap) xs) {i : Nat} (hi : i < xs.length) :
    w.cell? ⟨g, i * 2, none⟩ = some (.int .i64 (xs.getD i (0, 0)).1) := by
  have h1 := h.cellAt (i := i) (j := 0) (x := xs.getD i (0, 0)) (y := .int .i64 (xs.getD i (0, 0)).1) (by rw [List.getD_eq_getElem?_getD, List.getElem?_eq_getElem hi]; rfl) rfl
  exact h1
theorem kep_wf {e : TypeId} {B : Nat} {w : World} {v : Value} {xs : Kept} (h : OwnS kepE e B w v xs) {i : Nat} (hi : i < xs.length) : (Lit.int .i64 (xs.getD i (0, 0)).1).wf = true := by
  have h1 : xs.getD i (0, 0) ∈ xs := by rw [List.getD_eq_getElem?_getD, List.getElem?_eq_getElem hi]; simp
  exact (h.1 _ h1).1

set_option maxHeartbeats 16000000 in
/-- spec.DrawKeyForStep -/
theorem draw_kf (B : Nat) (a0 : Option Addr) (len cap : Nat) (zs : List Int) (w : World) (hB : B ≤ w.heap.size) (hrow : RowB B .u8 w a0 len cap zs) (hl : len ≤ maxLen) :
    Calls Try.prog 5 #[.slice a0 len cap] w fun e w' => ∃ (c s : Int) (v : Value) (xs : Kept) (t : Int), e = .returned (.tuple #[.agg #[.int .i64 c, .int .i64 s, v], .int .i64 t]) ∧ (-1 ≤ c ∧ c ≤ 2147483647) ∧ (-1 ≤ s ∧ s ≤ 100001) ∧ xs.length ≤ 9 ∧ OwnS kepE 40 w.heap.size w' v xs ∧ (Lit.int .i64 t).wf = true ∧ Below w.heap.size w w' := by
  have hk := heap_alloc_new w (.cells #[.int .i64 0, .int .i64 0, .slice none 0 0] 26)
  have hb0 : Below w.heap.size w (w.alloc (.cells #[.int .i64 0, .int .i64 0, .slice none 0 0] 26)) := (Below.refl _ _).alloc (Nat.le_refl _) _
  obtain ⟨W0, hW0⟩ : ∃ W, W = w.alloc (.cells #[.int .i64 0, .int .i64 0, .slice none 0 0] 26) := ⟨_, rfl⟩
  rw [← hW0] at hk hb0
  have HR := Lib.hid (hrow.behind (hb0.mono hB))
  have HW0 := Lib.hid hW0
  have HBw := Lib.hid hB
  have HBs := Lib.hid (show B ≤ W0.heap.size from Nat.le_trans hB hb0.size)
  have HZ := Lib.hid hk
  have HB := Lib.hid hb0
  clear hrow hk hb0 hW0 hB
  go_enter Try.func5, Try.ntmps5
  go_wp2_with fail
  rw [← HW0.out]
  refine (new_any B a0 len cap zs _ HBs.out HR.out hl).mono ?_
  rintro e w1 ⟨rfl, hc, hg⟩
  obtain ⟨b, hbn⟩ : ∃ b, b = W0.heap.size := ⟨_, rfl⟩
  rw [← hbn] at hc ⊢
  have HRb : Hid (w.heap.size < b) := Lib.hid (by rw [hbn]; exact lt_of_block HZ.out)
  have hb1 : Below W0.heap.size W0 w1 := (Below.refl _ _).grown hg (Nat.le_refl _) (fun k hk => by cases hk)
  replace HZ := Lib.hid (rstand HZ.out hb1)
  replace HB := Lib.hid (HB.out.trans (hb1.mono HB.out.size))
  have HbW : Hid (b < w1.heap.size) := Lib.hid hc.lt.2
  have HC := Lib.hid hc
  clear hc hg hbn HR hb1
  obtain ⟨W1s, hW1s⟩ : ∃ n, n = w1.heap.size := ⟨_, rfl⟩
  go_wp2_with fail
  refine (any19 B b _ HC.out).mono ?_
  rw [← hW1s]
  rw [← hW1s] at HbW
  rintro e w2 ⟨c, s, v, xs, rfl, hcb, hsb, hxl, hO, hc, hg⟩
  obtain ⟨a, cp, hv, hpos⟩ := hO.open
  subst hv
  obtain ⟨nl, hnl⟩ : ∃ x, x = xs.length := ⟨_, rfl⟩
  rw [← hnl] at hO hpos ⊢
  have hZ := (hg.block _ (lt_of_block HZ.out) (fun h => by injection h with h; have := HRb.out; omega)).trans HZ.out
  have hB := HB.out.grown hg HB.out.size (fun k hk => by injection hk with hk; have := HRb.out; omega)
  have hWG : W1s ≤ w2.heap.size := by rw [hW1s]; exact hg.size
  have hE := heap_alloc_new w2 (.cells #[.int .i64 c, .int .i64 s, .slice a nl cp] 26)
  have hb : Below w2.heap.size w2 (w2.alloc (.cells #[.int .i64 c, .int .i64 s, .slice a nl cp] 26)) := (Below.refl _ _).alloc (Nat.le_refl _) _
  obtain ⟨W4, hW4⟩ : ∃ W, W = w2.alloc (.cells #[.int .i64 c, .int .i64 s, .slice a nl cp] 26) := ⟨_, rfl⟩
  obtain ⟨G, hGn⟩ : ∃ G, G = w2.heap.size := ⟨_, rfl⟩
  rw [← hW4] at hE hb
  rw [← hGn] at hE hWG
  have HWG := Lib.hid hWG
  have HW4 := Lib.hid hW4
  have HGn := Lib.hid hGn
  have HE := Lib.hid hE
  replace HZ := Lib.hid (rstand hZ hb)
  have HO := Lib.hid (hO.next hb)
  replace HC := Lib.hid (hc.kept (grown_of_below hb) (by simp) (fun r hr => by cases hr))
  replace HB := Lib.hid (hB.trans (hb.mono hB.size))
  have HCb := Lib.hid hcb
  have HSb := Lib.hid hsb
  have HXl := Lib.hid hxl
  have HNl := Lib.hid hnl
  have HPos := Lib.hid hpos
  clear hcb hsb hxl hO hc hg hZ hB hWG hE hb hW4 hGn hnl hpos hW1s
  by_cases hn : 0 < nl
  · obtain ⟨g, rfl⟩ := HPos.out hn
    have e1 : decide ((0 : Int) < (nl : Int)) = true := decide_eq_true (by omega)
    have hcells := rcs HE.out
    obtain ⟨x0, x1, x2⟩ := hcells
    go_wp2_with (rw [← HW4.out, ← HGn.out])
    refine (once_any B b 2 _ HC.out (by omega) (by omega)).mono ?_
    rintro e w5 ⟨q, rfl, hc, hg⟩
    clear x0 x1 x2 e1
    have hE := (hg.block _ (lt_of_block HE.out) (fun h => by injection h with h; have := HRb.out; have := HbW.out; have := HWG.out; omega)).trans HE.out
    have hO := HO.out.kept hg (Or.inr (fun hh => by have := (HO.out.lt _ hh).1; have := HRb.out; have := HbW.out; have := HWG.out; omega))
    have hZ := (hg.block _ (lt_of_block HZ.out) (fun h => by injection h with h; have := HRb.out; have := HbW.out; have := HWG.out; omega)).trans HZ.out
    have hB := HB.out.grown hg HB.out.size (fun k hk => by injection hk with hk; have := HRb.out; have := HbW.out; have := HWG.out; omega)
    replace HE := Lib.hid hE
    replace HO := Lib.hid hO
    replace HZ := Lib.hid hZ
    replace HB := Lib.hid hB
    replace HC := Lib.hid hc
    clear hc hg hE hO hZ hB
    have hnl9 : (nl : Int) ≤ 9223372036854775807 := by have := HNl.out; have := HXl.out; omega
    cases q with
    | true =>
      go_wp2_with fail
      refine region_till (fun u => u.cell? ⟨G, 0, none⟩ = some (.int .i64 c) ∧ u.cell? ⟨G, 1, none⟩ = some (.int .i64 s) ∧ u.cell? ⟨G, 2, none⟩ = some (.slice (some ⟨g, 0, none⟩) nl cp) ∧ ∀ i : Nat, i < nl → u.cell? ⟨g, i * 2, none⟩ = some (.int .i64 (xs.getD i (0, 0)).1)) 12 (by kernel_rfl) ?_
      obtain ⟨wd, hwd⟩ : ∃ x, x = w5.drew := ⟨_, rfl⟩
      have hb : Below w5.heap.size w5 wd := by rw [hwd]; exact (Below.refl _ _).drew
      rw [← hwd]
      clear hwd
      replace HE := Lib.hid (rstand HE.out hb)
      replace HZ := Lib.hid (rstand HZ.out hb)
      replace HO := Lib.hid (HO.out.next hb)
      replace HC := Lib.hid (HC.out.kept (grown_of_below hb) (by simp) (fun r hr => by cases hr))
      replace HB := Lib.hid (HB.out.trans (hb.mono HB.out.size))
      clear hb
      have s0 := And.intro (rcs HE.out).1 (And.intro (rcs HE.out).2.1 (And.intro (rcs HE.out).2.2 (fun (i : Nat) (hi : i < nl) => kep_at HO.out (show i < xs.length by rw [← HNl.out]; exact hi))))
      apply Till.take (i := 0) [0, 11, 12]
      · simp only [List.getElem?_toArray, List.getElem?_cons_zero]
        rfl
      · kernel_rfl
      · kernel_rfl
      · kernel_rfl
      · kernel_rfl
      · exact fun _ _ _ h => h
      · first
          | exact Or.inr ⟨by rfl, rfl⟩
          | (refine Or.inl ⟨by rfl, fun wq hwq => ?_⟩
             dsimp only at hwq
             go_simp
             first
               | done
               | rfl)
      · exact s0
      simp only [Act.put, List.setIfInBounds_toArray, List.set_cons_zero, List.set_cons_succ]
      apply Till.take (i := 1) [1, 2, 8, 9, 10, 12]
      · simp only [List.getElem?_toArray, List.getElem?_cons_succ, List.getElem?_cons_zero]
        rfl
      · kernel_rfl
      · kernel_rfl
      · kernel_rfl
      · kernel_rfl
      · exact fun _ _ _ h => h
      · first
          | exact Or.inr ⟨by rfl, rfl⟩
          | (refine Or.inl ⟨by rfl, fun wq hwq => ?_⟩
             dsimp only at hwq
             go_simp
             first
               | done
               | rfl)
      · exact s0
      simp only [Act.put, List.setIfInBounds_toArray, List.set_cons_zero, List.set_cons_succ]
      apply Till.take (i := 2) [2, 8, 9, 10, 12]
      · simp only [List.getElem?_toArray, List.getElem?_cons_succ, List.getElem?_cons_zero]
        rfl
      · kernel_rfl
      · kernel_rfl
      · kernel_rfl
      · kernel_rfl
      · exact fun _ _ _ h => h
      · first
          | exact Or.inr ⟨by rfl, rfl⟩
          | (refine Or.inl ⟨by rfl, fun wq hwq => ?_⟩
             dsimp only at hwq
             go_simp
             first
               | done
               | rfl)
      · exact s0
      simp only [Act.put, List.setIfInBounds_toArray, List.set_cons_zero, List.set_cons_succ]
      apply Till.take (i := 3) [3, 7, 8, 9, 10, 12]
      · simp only [List.getElem?_toArray, List.getElem?_cons_succ, List.getElem?_cons_zero]
        rfl
      · kernel_rfl
      · kernel_rfl
      · kernel_rfl
      · kernel_rfl
      · exact fun _ _ _ h => h
      · first
          | exact Or.inr ⟨by rfl, rfl⟩
          | (refine Or.inl ⟨by rfl, fun wq hwq => ?_⟩
             dsimp only at hwq
             go_simp
             first
               | done
               | rfl)
      · exact s0
      simp only [Act.put, List.setIfInBounds_toArray, List.set_cons_zero, List.set_cons_succ]
      apply Till.take (i := 4) [4, 5, 6, 7, 8, 9, 10, 12]
      · simp only [List.getElem?_toArray, List.getElem?_cons_succ, List.getElem?_cons_zero]
        rfl
      · kernel_rfl
      · kernel_rfl
      · kernel_rfl
      · kernel_rfl
      · exact fun _ _ _ h => h
      · first
          | exact Or.inr ⟨by rfl, rfl⟩
          | (refine Or.inl ⟨by rfl, fun wq hwq => ?_⟩
             dsimp only at hwq
             go_simp
             first
               | done
               | rfl)
      · exact s0
      simp only [Act.put, List.setIfInBounds_toArray, List.set_cons_zero, List.set_cons_succ]
      apply Till.take (i := 5) [5, 6, 7, 8, 9, 10, 12]
      · simp only [List.getElem?_toArray, List.getElem?_cons_succ, List.getElem?_cons_zero]
        rfl
      · kernel_rfl
      · kernel_rfl
      · kernel_rfl
      · kernel_rfl
      · exact fun _ _ _ h => h
      · first
          | exact Or.inr ⟨by rfl, rfl⟩
          | (refine Or.inl ⟨by rfl, fun wq hwq => ?_⟩
             dsimp only at hwq
             go_simp
             first
               | done
               | rfl)
      · exact s0
      simp only [Act.put, List.setIfInBounds_toArray, List.set_cons_zero, List.set_cons_succ]
      apply Till.take (i := 6) [6, 7, 8, 9, 10, 12]
      · simp only [List.getElem?_toArray, List.getElem?_cons_succ, List.getElem?_cons_zero]
        rfl
      · kernel_rfl
      · kernel_rfl
      · kernel_rfl
      · kernel_rfl
      · exact fun _ _ _ h => h
      · first
          | exact Or.inr ⟨by rfl, rfl⟩
          | (refine Or.inl ⟨by rfl, fun wq hwq => ?_⟩
             dsimp only at hwq
             go_simp
             first
               | done
               | rfl)
      · exact s0
      simp only [Act.put, List.setIfInBounds_toArray, List.set_cons_zero, List.set_cons_succ]
      apply Till.one (i := 7)
      · kernel_rfl
      · simp only [List.getElem?_toArray, List.getElem?_cons_succ, List.getElem?_cons_zero]
        rfl
      intro K hK
      go_simp
      refine (below_any B b nl _ HC.out (by omega) (by omega)).mono ?_
      rintro e' w6 ⟨y, y0, y1, he, hc, hg⟩
      subst he
      clear s0
      have hE := (hg.block _ (lt_of_block HE.out) (fun h => by injection h with h; have := HRb.out; have := HbW.out; have := HWG.out; omega)).trans HE.out
      have hO := HO.out.kept hg (Or.inr (fun hh => by have := (HO.out.lt _ hh).1; have := HRb.out; have := HbW.out; have := HWG.out; omega))
      have hZ := (hg.block _ (lt_of_block HZ.out) (fun h => by injection h with h; have := HRb.out; have := HbW.out; have := HWG.out; omega)).trans HZ.out
      have hB := HB.out.grown hg HB.out.size (fun k hk => by injection hk with hk; have := HRb.out; have := HbW.out; have := HWG.out; omega)
      replace HE := Lib.hid hE
      replace HO := Lib.hid hO
      replace HZ := Lib.hid hZ
      replace HB := Lib.hid hB
      replace HC := Lib.hid hc
      clear hc hg hE hO hZ hB
      obtain ⟨k, rfl⟩ : ∃ k : Nat, y = (k : Int) := ⟨y.toNat, by omega⟩
      have hk : k < nl := by omega
      clear y0 y1
      have s0 := And.intro (rcs HE.out).1 (And.intro (rcs HE.out).2.1 (And.intro (rcs HE.out).2.2 (fun (i : Nat) (hi : i < nl) => kep_at HO.out (show i < xs.length by rw [← HNl.out]; exact hi))))
      refine hK.out _ _ (Or.inr s0) ?_
      clear hK K
      try simp only [Act.put, List.setIfInBounds_toArray, List.set_cons_zero, List.set_cons_succ]
      apply Till.take (i := 8) [8, 9, 10, 12]
      · simp only [List.getElem?_toArray, List.getElem?_cons_succ, List.getElem?_cons_zero]
        rfl
      · kernel_rfl
      · kernel_rfl
      · kernel_rfl
      · kernel_rfl
      · exact fun _ _ _ h => h
      · first
          | exact Or.inr ⟨by rfl, rfl⟩
          | (refine Or.inl ⟨by rfl, fun wq hwq => ?_⟩
             dsimp only at hwq
             go_simp
             first
               | done
               | rfl)
      · exact s0
      simp only [Act.put, List.setIfInBounds_toArray, List.set_cons_zero, List.set_cons_succ]
      apply Till.take (i := 9) [9, 10, 12]
      · simp only [List.getElem?_toArray, List.getElem?_cons_succ, List.getElem?_cons_zero]
        rfl
      · kernel_rfl
      · kernel_rfl
      · kernel_rfl
      · kernel_rfl
      · exact fun _ _ _ h => h
      · first
          | exact Or.inr ⟨by rfl, rfl⟩
          | (refine Or.inl ⟨by rfl, fun wq hwq => ?_⟩
             dsimp only at hwq
             go_simp
             first
               | done
               | rfl)
      · exact s0
      simp only [Act.put, List.setIfInBounds_toArray, List.set_cons_zero, List.set_cons_succ]
      apply Till.take (i := 10) [10, 12]
      · simp only [List.getElem?_toArray, List.getElem?_cons_succ, List.getElem?_cons_zero]
        rfl
      · kernel_rfl
      · kernel_rfl
      · kernel_rfl
      · kernel_rfl
      · exact fun _ _ _ h => h
      · refine Or.inl ⟨by rfl, fun wq hwq => ?_⟩
        have hcl := hwq.2.2.2 k hk
        dsimp only at hwq
        go_simp
        first
          | done
          | rfl
      · exact s0
      simp only [Act.put, List.setIfInBounds_toArray, List.set_cons_zero, List.set_cons_succ]
      obtain ⟨wz, hwz⟩ : ∃ x, x = w6 := ⟨_, rfl⟩
      rw [← hwz] at HE HZ HO HC HB s0 ⊢
      clear hwz
      obtain ⟨q0, q1, q2⟩ := rcs HZ.out
      obtain ⟨f0, f1, f2⟩ := rfr HZ.out
      obtain ⟨k9, g9⟩ := rst HZ.out (.int .i64 c) (.int .i64 s) (.slice (some ⟨g, 0, none⟩) nl cp)
      have hE := (g9.block _ (lt_of_block HE.out) (fun h => by injection h with h; have := HRb.out; have := HbW.out; have := HWG.out; omega)).trans HE.out
      have hO := HO.out.kept g9 (Or.inr (fun hh => by have := (HO.out.lt _ hh).1; have := HRb.out; have := HbW.out; have := HWG.out; omega))
      have hC := HC.out.kept g9 (fun h => by injection h with h; have := HRb.out; have := HbW.out; have := HWG.out; omega) (fun r hr => by injection hr with hr; have := HBw.out; omega)
      have hB := HB.out.grown g9 HB.out.size (fun k hk => by injection hk with hk; omega)
      replace HE := Lib.hid hE
      replace HO := Lib.hid hO
      replace HZ := Lib.hid k9
      replace HC := Lib.hid hC
      replace HB := Lib.hid hB
      clear k9 g9 hE hO hC hB s0
      have s0 := And.intro (rcs HE.out).1 (And.intro (rcs HE.out).2.1 (And.intro (rcs HE.out).2.2 (fun (i : Nat) (hi : i < nl) => kep_at HO.out (show i < xs.length by rw [← HNl.out]; exact hi))))
      apply Till.one (i := 11)
      · kernel_rfl
      · simp only [List.getElem?_toArray, List.getElem?_cons_succ, List.getElem?_cons_zero]
        rfl
      intro K hK
      go_simp
      skip
      refine hK.out _ _ (Or.inr s0) ?_
      clear hK K
      try simp only [Act.put, List.setIfInBounds_toArray, List.set_cons_zero, List.set_cons_succ]
      apply Till.one (i := 12)
      · kernel_rfl
      · simp only [List.getElem?_toArray, List.getElem?_cons_succ, List.getElem?_cons_zero]
        rfl
      intro K hK
      go_simp
      skip
      refine hK.out _ _ (Or.inl (by rfl)) ?_
      clear hK K
      try simp only [Act.put, List.setIfInBounds_toArray, List.set_cons_zero, List.set_cons_succ]
      refine Till.done (by kernel_rfl) ?_ _
      clear q0 q1 q2 f0 f1 f2
      obtain ⟨wy, hwy⟩ : ∃ zz, zz = ((wz.setCell ⟨w.heap.size, 0, none⟩ (.int .i64 c)).setCell ⟨w.heap.size, 1, none⟩ (.int .i64 s)).setCell ⟨w.heap.size, 2, none⟩ (.slice (some ⟨g, 0, none⟩) nl cp) := ⟨_, rfl⟩
      rw [← hwy] at HE HZ HO HC HB ⊢
      clear hwy
      obtain ⟨r0, r1, r2⟩ := rcs HZ.out
      go_wp2_with fail
      exact bodyPost_ret (v := .tuple #[.agg #[.int .i64 c, .int .i64 s, .slice (some ⟨g, 0, none⟩) nl cp], .int .i64 (xs.getD k (0, 0)).1]) (by simp [results, Try.results5, go_sem, r0, r1, r2]) rfl ⟨c, s, _, xs, (xs.getD k (0, 0)).1, rfl, HCb.out, HSb.out, HXl.out, HO.out.mono (show w.heap.size ≤ W1s by have := HRb.out; have := HbW.out; have := HWG.out; omega), kep_wf HO.out (by rw [← HNl.out]; exact hk), HB.out⟩
    | false =>
      generalize hgg : (some (⟨g, 0, none⟩ : Addr)) = a at *
      obtain ⟨s2, hs2⟩ : ∃ x, x = s - 2 := ⟨_, rfl⟩
      have hs2w : IntKind.i64.wrap (s - 2) = s2 := by rw [hs2]; exact wrap_in19 (by have := HSb.out; omega) (by have := HSb.out; omega)
      have HS2 := Lib.hid hs2
      clear hs2
      go_wp2_with fail
      refine region_till (fun u => u.cell? ⟨G, 0, none⟩ = some (.int .i64 c) ∧ u.cell? ⟨G, 1, none⟩ = some (.int .i64 s) ∧ u.cell? ⟨G, 2, none⟩ = some (.slice a nl cp)) 8 (by kernel_rfl) ?_
      obtain ⟨wd, hwd⟩ : ∃ x, x = w5.drew := ⟨_, rfl⟩
      have hb : Below w5.heap.size w5 wd := by rw [hwd]; exact (Below.refl _ _).drew
      rw [← hwd]
      clear hwd
      replace HE := Lib.hid (rstand HE.out hb)
      replace HZ := Lib.hid (rstand HZ.out hb)
      replace HO := Lib.hid (HO.out.next hb)
      replace HC := Lib.hid (HC.out.kept (grown_of_below hb) (by simp) (fun r hr => by cases hr))
      replace HB := Lib.hid (HB.out.trans (hb.mono HB.out.size))
      clear hb
      have s0 := rcs HE.out
      apply Till.take (i := 0) [0, 7, 8]
      · simp only [List.getElem?_toArray, List.getElem?_cons_zero]
        rfl
      · kernel_rfl
      · kernel_rfl
      · kernel_rfl
      · kernel_rfl
      · exact fun _ _ _ h => h
      · first
          | exact Or.inr ⟨by rfl, rfl⟩
          | (refine Or.inl ⟨by rfl, fun wq hwq => ?_⟩
             dsimp only at hwq
             go_simp
             first
               | done
               | rfl)
      · exact s0
      simp only [Act.put, List.setIfInBounds_toArray, List.set_cons_zero, List.set_cons_succ]
      apply Till.take (i := 1) [1, 2, 3, 6, 8]
      · simp only [List.getElem?_toArray, List.getElem?_cons_succ, List.getElem?_cons_zero]
        rfl
      · kernel_rfl
      · kernel_rfl
      · kernel_rfl
      · kernel_rfl
      · exact fun _ _ _ h => h
      · first
          | exact Or.inr ⟨by rfl, rfl⟩
          | (refine Or.inl ⟨by rfl, fun wq hwq => ?_⟩
             dsimp only at hwq
             go_simp
             first
               | done
               | rfl)
      · exact s0
      simp only [Act.put, List.setIfInBounds_toArray, List.set_cons_zero, List.set_cons_succ]
      apply Till.take (i := 2) [2, 3, 6, 8]
      · simp only [List.getElem?_toArray, List.getElem?_cons_succ, List.getElem?_cons_zero]
        rfl
      · kernel_rfl
      · kernel_rfl
      · kernel_rfl
      · kernel_rfl
      · exact fun _ _ _ h => h
      · first
          | exact Or.inr ⟨by rfl, rfl⟩
          | (refine Or.inl ⟨by rfl, fun wq hwq => ?_⟩
             dsimp only at hwq
             go_simp
             first
               | done
               | rfl)
      · exact s0
      simp only [Act.put, List.setIfInBounds_toArray, List.set_cons_zero, List.set_cons_succ]
      apply Till.take (i := 3) [3, 6, 8]
      · simp only [List.getElem?_toArray, List.getElem?_cons_succ, List.getElem?_cons_zero]
        rfl
      · kernel_rfl
      · kernel_rfl
      · kernel_rfl
      · kernel_rfl
      · exact fun _ _ _ h => h
      · first
          | exact Or.inr ⟨by rfl, rfl⟩
          | (refine Or.inl ⟨by rfl, fun wq hwq => ?_⟩
             dsimp only at hwq
             go_simp
             first
               | done
               | rfl)
      · exact s0
      simp only [Act.put, List.setIfInBounds_toArray, List.set_cons_zero, List.set_cons_succ]
      apply Till.take (i := 4) [4, 5, 6, 8]
      · simp only [List.getElem?_toArray, List.getElem?_cons_succ, List.getElem?_cons_zero]
        rfl
      · kernel_rfl
      · kernel_rfl
      · kernel_rfl
      · kernel_rfl
      · exact fun _ _ _ h => h
      · first
          | exact Or.inr ⟨by rfl, rfl⟩
          | (refine Or.inl ⟨by rfl, fun wq hwq => ?_⟩
             dsimp only at hwq
             go_simp
             first
               | done
               | rfl)
      · exact s0
      simp only [Act.put, List.setIfInBounds_toArray, List.set_cons_zero, List.set_cons_succ]
      apply Till.one (i := 5)
      · kernel_rfl
      · simp only [List.getElem?_toArray, List.getElem?_cons_succ, List.getElem?_cons_zero]
        rfl
      intro K hK
      go_simp
      refine (below_any B b 12 _ HC.out (by omega) (by omega)).mono ?_
      rintro e' w6 ⟨y, y0, y1, he, hc, hg⟩
      subst he
      clear s0
      have hE := (hg.block _ (lt_of_block HE.out) (fun h => by injection h with h; have := HRb.out; have := HbW.out; have := HWG.out; omega)).trans HE.out
      have hO := HO.out.kept hg (Or.inr (fun hh => by have := (HO.out.lt _ hh).1; have := HRb.out; have := HbW.out; have := HWG.out; omega))
      have hZ := (hg.block _ (lt_of_block HZ.out) (fun h => by injection h with h; have := HRb.out; have := HbW.out; have := HWG.out; omega)).trans HZ.out
      have hB := HB.out.grown hg HB.out.size (fun k hk => by injection hk with hk; have := HRb.out; have := HbW.out; have := HWG.out; omega)
      replace HE := Lib.hid hE
      replace HO := Lib.hid hO
      replace HZ := Lib.hid hZ
      replace HB := Lib.hid hB
      replace HC := Lib.hid hc
      clear hc hg hE hO hZ hB
      obtain ⟨t, ht⟩ : ∃ x, x = s2 + y := ⟨_, rfl⟩
      have htw : IntKind.i64.wrap (s2 + y) = t := by rw [ht]; exact wrap_in19 (by have := HSb.out; have := HS2.out; omega) (by have := HSb.out; have := HS2.out; omega)
      have HTw : Hid ((Lit.int .i64 t).wf = true) := Lib.hid (w19 (by have := HSb.out; have := HS2.out; omega) (by have := HSb.out; have := HS2.out; omega))
      clear ht y0 y1
      have s0 := rcs HE.out
      refine hK.out _ _ (Or.inr s0) ?_
      clear hK K
      try simp only [Act.put, List.setIfInBounds_toArray, List.set_cons_zero, List.set_cons_succ]
      apply Till.take (i := 6) [6, 8]
      · simp only [List.getElem?_toArray, List.getElem?_cons_succ, List.getElem?_cons_zero]
        rfl
      · kernel_rfl
      · kernel_rfl
      · kernel_rfl
      · kernel_rfl
      · exact fun _ _ _ h => h
      · first
          | exact Or.inr ⟨by rfl, rfl⟩
          | (refine Or.inl ⟨by rfl, fun wq hwq => ?_⟩
             dsimp only at hwq
             go_simp
             first
               | done
               | rfl)
      · exact s0
      simp only [Act.put, List.setIfInBounds_toArray, List.set_cons_zero, List.set_cons_succ]
      obtain ⟨wz, hwz⟩ : ∃ x, x = w6 := ⟨_, rfl⟩
      rw [← hwz] at HE HZ HO HC HB s0 ⊢
      clear hwz
      obtain ⟨q0, q1, q2⟩ := rcs HZ.out
      obtain ⟨f0, f1, f2⟩ := rfr HZ.out
      obtain ⟨k9, g9⟩ := rst HZ.out (.int .i64 c) (.int .i64 s) (.slice a nl cp)
      have hE := (g9.block _ (lt_of_block HE.out) (fun h => by injection h with h; have := HRb.out; have := HbW.out; have := HWG.out; omega)).trans HE.out
      have hO := HO.out.kept g9 (Or.inr (fun hh => by have := (HO.out.lt _ hh).1; have := HRb.out; have := HbW.out; have := HWG.out; omega))
      have hC := HC.out.kept g9 (fun h => by injection h with h; have := HRb.out; have := HbW.out; have := HWG.out; omega) (fun r hr => by injection hr with hr; have := HBw.out; omega)
      have hB := HB.out.grown g9 HB.out.size (fun k hk => by injection hk with hk; omega)
      replace HE := Lib.hid hE
      replace HO := Lib.hid hO
      replace HZ := Lib.hid k9
      replace HC := Lib.hid hC
      replace HB := Lib.hid hB
      clear k9 g9 hE hO hC hB s0
      have s0 := rcs HE.out
      apply Till.one (i := 7)
      · kernel_rfl
      · simp only [List.getElem?_toArray, List.getElem?_cons_succ, List.getElem?_cons_zero]
        rfl
      intro K hK
      go_simp
      skip
      refine hK.out _ _ (Or.inr s0) ?_
      clear hK K
      try simp only [Act.put, List.setIfInBounds_toArray, List.set_cons_zero, List.set_cons_succ]
      apply Till.one (i := 8)
      · kernel_rfl
      · simp only [List.getElem?_toArray, List.getElem?_cons_succ, List.getElem?_cons_zero]
        rfl
      intro K hK
      go_simp
      skip
      refine hK.out _ _ (Or.inl (by rfl)) ?_
      clear hK K
      try simp only [Act.put, List.setIfInBounds_toArray, List.set_cons_zero, List.set_cons_succ]
      refine Till.done (by kernel_rfl) ?_ _
      clear q0 q1 q2 f0 f1 f2
      obtain ⟨wy, hwy⟩ : ∃ zz, zz = ((wz.setCell ⟨w.heap.size, 0, none⟩ (.int .i64 c)).setCell ⟨w.heap.size, 1, none⟩ (.int .i64 s)).setCell ⟨w.heap.size, 2, none⟩ (.slice a nl cp) := ⟨_, rfl⟩
      rw [← hwy] at HE HZ HO HC HB ⊢
      clear hwy
      obtain ⟨r0, r1, r2⟩ := rcs HZ.out
      go_wp2_with fail
      exact bodyPost_ret (v := .tuple #[.agg #[.int .i64 c, .int .i64 s, .slice a nl cp], .int .i64 t]) (by simp [results, Try.results5, go_sem, r0, r1, r2]) rfl ⟨c, s, _, xs, t, rfl, HCb.out, HSb.out, HXl.out, HO.out.mono (show w.heap.size ≤ W1s by have := HRb.out; have := HbW.out; have := HWG.out; omega), HTw.out, HB.out⟩
  · have e1 : decide ((0 : Int) < (nl : Int)) = false := decide_eq_false (by omega)
    obtain ⟨x0, x1, x2⟩ := rcs HE.out
    obtain ⟨s2, hs2⟩ : ∃ x, x = s - 2 := ⟨_, rfl⟩
    have hs2w : IntKind.i64.wrap (s - 2) = s2 := by rw [hs2]; exact wrap_in19 (by have := HSb.out; omega) (by have := HSb.out; omega)
    have HS2 := Lib.hid hs2
    clear hs2
    go_wp2_with (rw [← HW4.out, ← HGn.out])
    clear x0 x1 x2 e1
    refine region_till (fun u => u.cell? ⟨G, 0, none⟩ = some (.int .i64 c) ∧ u.cell? ⟨G, 1, none⟩ = some (.int .i64 s) ∧ u.cell? ⟨G, 2, none⟩ = some (.slice a nl cp)) 8 (by kernel_rfl) ?_
    obtain ⟨wd, hwd⟩ : ∃ x, x = W4.drew := ⟨_, rfl⟩
    have hb : Below W4.heap.size W4 wd := by rw [hwd]; exact (Below.refl _ _).drew
    rw [← hwd]
    clear hwd
    replace HE := Lib.hid (rstand HE.out hb)
    replace HZ := Lib.hid (rstand HZ.out hb)
    replace HO := Lib.hid (HO.out.next hb)
    replace HC := Lib.hid (HC.out.kept (grown_of_below hb) (by simp) (fun r hr => by cases hr))
    replace HB := Lib.hid (HB.out.trans (hb.mono HB.out.size))
    clear hb
    have s0 := rcs HE.out
    apply Till.take (i := 0) [0, 7, 8]
    · simp only [List.getElem?_toArray, List.getElem?_cons_zero]
      rfl
    · kernel_rfl
    · kernel_rfl
    · kernel_rfl
    · kernel_rfl
    · exact fun _ _ _ h => h
    · first
        | exact Or.inr ⟨by rfl, rfl⟩
        | (refine Or.inl ⟨by rfl, fun wq hwq => ?_⟩
           dsimp only at hwq
           go_simp
           first
             | done
             | rfl)
    · exact s0
    simp only [Act.put, List.setIfInBounds_toArray, List.set_cons_zero, List.set_cons_succ]
    apply Till.take (i := 1) [1, 2, 3, 6, 8]
    · simp only [List.getElem?_toArray, List.getElem?_cons_succ, List.getElem?_cons_zero]
      rfl
    · kernel_rfl
    · kernel_rfl
    · kernel_rfl
    · kernel_rfl
    · exact fun _ _ _ h => h
    · first
        | exact Or.inr ⟨by rfl, rfl⟩
        | (refine Or.inl ⟨by rfl, fun wq hwq => ?_⟩
           dsimp only at hwq
           go_simp
           first
             | done
             | rfl)
    · exact s0
    simp only [Act.put, List.setIfInBounds_toArray, List.set_cons_zero, List.set_cons_succ]
    apply Till.take (i := 2) [2, 3, 6, 8]
    · simp only [List.getElem?_toArray, List.getElem?_cons_succ, List.getElem?_cons_zero]
      rfl
    · kernel_rfl
    · kernel_rfl
    · kernel_rfl
    · kernel_rfl
    · exact fun _ _ _ h => h
    · first
        | exact Or.inr ⟨by rfl, rfl⟩
        | (refine Or.inl ⟨by rfl, fun wq hwq => ?_⟩
           dsimp only at hwq
           go_simp
           first
             | done
             | rfl)
    · exact s0
    simp only [Act.put, List.setIfInBounds_toArray, List.set_cons_zero, List.set_cons_succ]
    apply Till.take (i := 3) [3, 6, 8]
    · simp only [List.getElem?_toArray, List.getElem?_cons_succ, List.getElem?_cons_zero]
      rfl
    · kernel_rfl
    · kernel_rfl
    · kernel_rfl
    · kernel_rfl
    · exact fun _ _ _ h => h
    · first
        | exact Or.inr ⟨by rfl, rfl⟩
        | (refine Or.inl ⟨by rfl, fun wq hwq => ?_⟩
           dsimp only at hwq
           go_simp
           first
             | done
             | rfl)
    · exact s0
    simp only [Act.put, List.setIfInBounds_toArray, List.set_cons_zero, List.set_cons_succ]
    apply Till.take (i := 4) [4, 5, 6, 8]
    · simp only [List.getElem?_toArray, List.getElem?_cons_succ, List.getElem?_cons_zero]
      rfl
    · kernel_rfl
    · kernel_rfl
    · kernel_rfl
    · kernel_rfl
    · exact fun _ _ _ h => h
    · first
        | exact Or.inr ⟨by rfl, rfl⟩
        | (refine Or.inl ⟨by rfl, fun wq hwq => ?_⟩
           dsimp only at hwq
           go_simp
           first
             | done
             | rfl)
    · exact s0
    simp only [Act.put, List.setIfInBounds_toArray, List.set_cons_zero, List.set_cons_succ]
    apply Till.one (i := 5)
    · kernel_rfl
    · simp only [List.getElem?_toArray, List.getElem?_cons_succ, List.getElem?_cons_zero]
      rfl
    intro K hK
    go_simp
    refine (below_any B b 12 _ HC.out (by omega) (by omega)).mono ?_
    rintro e' w6 ⟨y, y0, y1, he, hc, hg⟩
    subst he
    clear s0
    have hE := (hg.block _ (lt_of_block HE.out) (fun h => by injection h with h; have := HRb.out; have := HbW.out; have := HWG.out; omega)).trans HE.out
    have hO := HO.out.kept hg (Or.inr (fun hh => by have := (HO.out.lt _ hh).1; have := HRb.out; have := HbW.out; have := HWG.out; omega))
    have hZ := (hg.block _ (lt_of_block HZ.out) (fun h => by injection h with h; have := HRb.out; have := HbW.out; have := HWG.out; omega)).trans HZ.out
    have hB := HB.out.grown hg HB.out.size (fun k hk => by injection hk with hk; have := HRb.out; have := HbW.out; have := HWG.out; omega)
    replace HE := Lib.hid hE
    replace HO := Lib.hid hO
    replace HZ := Lib.hid hZ
    replace HB := Lib.hid hB
    replace HC := Lib.hid hc
    clear hc hg hE hO hZ hB
    obtain ⟨t, ht⟩ : ∃ x, x = s2 + y := ⟨_, rfl⟩
    have htw : IntKind.i64.wrap (s2 + y) = t := by rw [ht]; exact wrap_in19 (by have := HSb.out; have := HS2.out; omega) (by have := HSb.out; have := HS2.out; omega)
    have HTw : Hid ((Lit.int .i64 t).wf = true) := Lib.hid (w19 (by have := HSb.out; have := HS2.out; omega) (by have := HSb.out; have := HS2.out; omega))
    clear ht y0 y1
    have s0 := rcs HE.out
    refine hK.out _ _ (Or.inr s0) ?_
    clear hK K
    try simp only [Act.put, List.setIfInBounds_toArray, List.set_cons_zero, List.set_cons_succ]
    apply Till.take (i := 6) [6, 8]
    · simp only [List.getElem?_toArray, List.getElem?_cons_succ, List.getElem?_cons_zero]
      rfl
    · kernel_rfl
    · kernel_rfl
    · kernel_rfl
    · kernel_rfl
    · exact fun _ _ _ h => h
    · first
        | exact Or.inr ⟨by rfl, rfl⟩
        | (refine Or.inl ⟨by rfl, fun wq hwq => ?_⟩
           dsimp only at hwq
           go_simp
           first
             | done
             | rfl)
    · exact s0
    simp only [Act.put, List.setIfInBounds_toArray, List.set_cons_zero, List.set_cons_succ]
    obtain ⟨wz, hwz⟩ : ∃ x, x = w6 := ⟨_, rfl⟩
    rw [← hwz] at HE HZ HO HC HB s0 ⊢
    clear hwz
    obtain ⟨q0, q1, q2⟩ := rcs HZ.out
    obtain ⟨f0, f1, f2⟩ := rfr HZ.out
    obtain ⟨k9, g9⟩ := rst HZ.out (.int .i64 c) (.int .i64 s) (.slice a nl cp)
    have hE := (g9.block _ (lt_of_block HE.out) (fun h => by injection h with h; have := HRb.out; have := HbW.out; have := HWG.out; omega)).trans HE.out
    have hO := HO.out.kept g9 (Or.inr (fun hh => by have := (HO.out.lt _ hh).1; have := HRb.out; have := HbW.out; have := HWG.out; omega))
    have hC := HC.out.kept g9 (fun h => by injection h with h; have := HRb.out; have := HbW.out; have := HWG.out; omega) (fun r hr => by injection hr with hr; have := HBw.out; omega)
    have hB := HB.out.grown g9 HB.out.size (fun k hk => by injection hk with hk; omega)
    replace HE := Lib.hid hE
    replace HO := Lib.hid hO
    replace HZ := Lib.hid k9
    replace HC := Lib.hid hC
    replace HB := Lib.hid hB
    clear k9 g9 hE hO hC hB s0
    have s0 := rcs HE.out
    apply Till.one (i := 7)
    · kernel_rfl
    · simp only [List.getElem?_toArray, List.getElem?_cons_succ, List.getElem?_cons_zero]
      rfl
    intro K hK
    go_simp
    skip
    refine hK.out _ _ (Or.inr s0) ?_
    clear hK K
    try simp only [Act.put, List.setIfInBounds_toArray, List.set_cons_zero, List.set_cons_succ]
    apply Till.one (i := 8)
    · kernel_rfl
    · simp only [List.getElem?_toArray, List.getElem?_cons_succ, List.getElem?_cons_zero]
      rfl
    intro K hK
    go_simp
    skip
    refine hK.out _ _ (Or.inl (by rfl)) ?_
    clear hK K
    try simp only [Act.put, List.setIfInBounds_toArray, List.set_cons_zero, List.set_cons_succ]
    refine Till.done (by kernel_rfl) ?_ _
    clear q0 q1 q2 f0 f1 f2
    obtain ⟨wy, hwy⟩ : ∃ zz, zz = ((wz.setCell ⟨w.heap.size, 0, none⟩ (.int .i64 c)).setCell ⟨w.heap.size, 1, none⟩ (.int .i64 s)).setCell ⟨w.heap.size, 2, none⟩ (.slice a nl cp) := ⟨_, rfl⟩
    rw [← hwy] at HE HZ HO HC HB ⊢
    clear hwy
    obtain ⟨r0, r1, r2⟩ := rcs HZ.out
    go_wp2_with fail
    exact bodyPost_ret (v := .tuple #[.agg #[.int .i64 c, .int .i64 s, .slice a nl cp], .int .i64 t]) (by simp [results, Try.results5, go_sem, r0, r1, r2]) rfl ⟨c, s, _, xs, t, rfl, HCb.out, HSb.out, HXl.out, HO.out.mono (show w.heap.size ≤ W1s by have := HRb.out; have := HbW.out; have := HWG.out; omega), HTw.out, HB.out⟩

end Go.Proofs.Ytlbijjifeaimjaa
