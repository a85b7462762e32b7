/- Chapter 19's draws: any ratchet, what KeyForStep takes. No conditions but sizes that a machine holds. -/
import Derived.Test.YtlbijjifeaimjaaDraw19a
namespace Go.Proofs.Ytlbijjifeaimjaa
open Go Go.RowKit
set_option linter.unusedVariables false
set_option maxRecDepth 20000
attribute [local irreducible] kh kid

set_option maxHeartbeats 16000000 in
/-- spec.l19Any -/
theorem any19 (B b : Nat) (w : World) (h : Cur B b w) :
    Calls Try.prog 13 #[.pointer (some ⟨b, 0, none⟩)] w fun e w' => ∃ (c s : Int) (v : Value) (xs : Kept), e = .returned (.agg #[.int .i64 c, .int .i64 s, v]) ∧ (-1 ≤ c ∧ c ≤ 2147483647) ∧ (-1 ≤ s ∧ s ≤ 100001) ∧ xs.length ≤ 9 ∧ OwnS kepE 40 w.heap.size w' v xs ∧ Cur B b w' ∧ w.grownBy w' (some b) := by
  obtain ⟨i0, hi, hz0, hz1, hz2⟩ := info_parts infoSkippedKey
  have Hhi := Lib.hid hi
  have hk := heap_alloc_new w (.cells #[.int .i64 0, .int .i64 0, .slice none 0 0] 26)
  have hg0 := World.grownBy_alloc w (.cells #[.int .i64 0, .int .i64 0, .slice none 0 0] 26) none
  have hc0 := h.alloc (.cells #[.int .i64 0, .int .i64 0, .slice none 0 0] 26)
  obtain ⟨W0, hW0⟩ : ∃ W, W = w.alloc (.cells #[.int .i64 0, .int .i64 0, .slice none 0 0] 26) := ⟨_, rfl⟩
  have HW : Hid (W0.heap.size = w.heap.size + 1) := Lib.hid (by rw [hW0, World.size_alloc])
  have HL0 : Hid (w.heap.size < W0.heap.size) := Lib.hid (by have := HW.out; omega)
  rw [← hW0] at hk hg0 hc0
  have HW0 := Lib.hid hW0
  have HLt := Lib.hid h.lt
  have HZ := Lib.hid hk
  have HG0 := Lib.hid hg0
  have HC := Lib.hid hc0
  clear hk hg0 hc0 hW0 h
  clear hi
  go_enter Try.func13, Try.ntmps13
  go_wp2_with fail
  rw [← HW0.out]
  refine (ratchet19 B b _ HC.out).mono ?_
  rintro e w2 ⟨c, s, v, xs, rfl, hok, hO, hc, hg⟩
  obtain ⟨a, cp, hv, _⟩ := hO.open
  subst hv
  obtain ⟨nl, hnl⟩ : ∃ x, x = xs.length := ⟨_, rfl⟩
  rw [← hnl] at hO ⊢
  have hE := heap_alloc_new w2 (.cells #[.int .i64 c, .int .i64 s, .slice a nl cp] 26)
  have hC2 := hc.alloc (.cells #[.int .i64 c, .int .i64 s, .slice a nl cp] 26)
  have hO2 := hO.alloc (.cells #[.int .i64 c, .int .i64 s, .slice a nl cp] 26)
  have hG2 := grown_trans hg (grown_none (World.grownBy_alloc w2 (.cells #[.int .i64 c, .int .i64 s, .slice a nl cp] 26) none))
  obtain ⟨W1, hW1⟩ : ∃ W, W = w2.alloc (.cells #[.int .i64 c, .int .i64 s, .slice a nl cp] 26) := ⟨_, rfl⟩
  obtain ⟨G, hGn⟩ : ∃ G, G = w2.heap.size := ⟨_, rfl⟩
  have HGl : Hid (W0.heap.size ≤ G) := Lib.hid (by rw [hGn]; exact hg.size)
  rw [← hW1, ← hGn] at hE
  rw [← hW1] at hC2 hG2 hO2
  have HW1 := Lib.hid hW1
  have HGn := Lib.hid hGn
  have HE := Lib.hid hE
  have HO := Lib.hid hO2
  have HC := Lib.hid hC2
  have HG := Lib.hid hG2
  have HOk := Lib.hid hok
  have HXl : Hid (xs.length ≤ 8) := Lib.hid (okR_iff.1 hok).2.2.1
  have HSb : Hid (0 ≤ s ∧ s ≤ 100000) := Lib.hid (okR_iff.1 hok).2.1
  have HCb : Hid (-1 ≤ c ∧ c ≤ 2147483647) := Lib.hid (by have := (okR_iff.1 hok).1; omega)
  clear hO hc hg hE hC2 hO2 hG2 hW1 hGn hok hnl
  go_wp2_with (rw [← HW1.out, ← HGn.out])
  refine (below_any B b 12 _ HC.out (by omega) (by omega)).mono ?_
  rintro e w5 ⟨y, y0, y1, rfl, hc, hg⟩
  have hE := (hg.block _ (lt_of_block HE.out) (fun h => by injection h with h; have := HGl.out; have := HLt.out; have := HW.out; omega)).trans HE.out
  have hO := HO.out.kept hg (Or.inr (fun hh => by have := (HO.out.lt _ hh).1; have := HLt.out; have := HW.out; omega))
  replace HE := Lib.hid hE
  replace HO := Lib.hid hO
  replace HC := Lib.hid hc
  replace HG := Lib.hid (grown_trans HG.out hg)
  clear hc hg hE hO
  by_cases h0 : y = 0
  case pos =>
    subst h0
    go_wp2_with fail
    refine (key13 B b _ HC.out).mono ?_
    rintro e w6 ⟨z, z0, z1, rfl, hc, hg⟩
    have hE := (hg.block _ (lt_of_block HE.out) (fun h => by injection h with h; have := HGl.out; have := HLt.out; have := HW.out; omega)).trans HE.out
    have hO := HO.out.kept hg (Or.inr (fun hh => by have := (HO.out.lt _ hh).1; have := HLt.out; have := HW.out; omega))
    replace HE := Lib.hid hE
    replace HO := Lib.hid hO
    replace HC := Lib.hid hc
    replace HG := Lib.hid (grown_trans HG.out hg)
    clear hc hg hE hO
    have k9 := blk_set HE.out 0 (.int .i64 z)
    have g9 := grown_set w6 G 0 (.int .i64 z)
    have hO := HO.out.kept g9 (Or.inr (fun hh => owns_ne_box (by decide) HO.out HE.out _ hh rfl))
    have hC := HC.out.kept g9 (fun h => by injection h with h; have := HGl.out; have := HLt.out; have := HW.out; omega) (fun r hr => by injection hr with hr; have := HGl.out; have := HLt.out; have := HW.out; omega)
    have hG := grown_own HG.out g9 (fun r hr => by injection hr with hr; have := HGl.out; omega)
    obtain ⟨f0, f1, f2⟩ := rfr HE.out
    obtain ⟨c0, c1, c2⟩ := rcs HE.out
    have hE : (w6.setCell ⟨G, 0, none⟩ (.int .i64 z)).heap[G]? = some (.cells #[.int .i64 z, .int .i64 s, .slice a nl cp] 26 (0, 0)) := k9
    replace HE := Lib.hid hE
    replace HO := Lib.hid hO
    replace HC := Lib.hid hC
    replace HG := Lib.hid hG
    clear k9 g9 hO hC hG hE
    have hk := (HG.out.block _ HL0.out (fun h => by injection h with h; have := HLt.out; omega)).trans HZ.out
    obtain ⟨q0, q1, q2⟩ := rcs hk
    obtain ⟨f0, f1, f2⟩ := rfr hk
    obtain ⟨x0, x1, x2⟩ := rcs HE.out
    obtain ⟨k9, g9⟩ := rst hk (.int .i64 z) (.int .i64 s) (.slice a nl cp)
    obtain ⟨r0, r1, r2⟩ := rcs k9
    have HO9 := Lib.hid ((HO.out.kept g9 (Or.inr (fun hh => by have := (HO.out.lt _ hh).1; have := HW.out; omega))).mono (show w.heap.size ≤ W0.heap.size by have := HW.out; omega))
    have HC9 := Lib.hid (HC.out.kept g9 (fun h => by injection h with h; have := HLt.out; omega) (fun r hr => by injection hr with hr; have := HLt.out; omega))
    have HG9 := Lib.hid (grown_own (grown_trans (grown_none HG0.out) HG.out) g9 (fun r hr => by injection hr with hr; omega))
    clear k9 g9 hk
    go_wp2_with fail
    exact bodyPost_ret (v := .agg #[.int .i64 z, .int .i64 s, .slice a nl cp]) (by simp [results, Try.results13, go_sem, r0, r1, r2]) rfl ⟨z, s, _, xs, rfl, ⟨z0, z1⟩, by have := HSb.out; omega, by have := HXl.out; omega, HO9.out, HC9.out, HG9.out⟩
  case neg =>
  by_cases h1 : y = 1
  case pos =>
    subst h1
    clear h0
    go_wp2_with fail
    refine (int_alloc B b (-1) 100001 [-1, 0, 99999, 100000, 100001] 3 5 _ HC.out rfl (by omega) (by omega) (by intro z hz; simp at hz; omega)).mono ?_
    rintro e w6 ⟨z, z0, z1, rfl, hc, hg⟩
    have hE := (hg.block _ (lt_of_block HE.out) (fun h => by injection h with h; have := HGl.out; have := HLt.out; have := HW.out; omega)).trans HE.out
    have hO := HO.out.kept hg (Or.inr (fun hh => by have := (HO.out.lt _ hh).1; have := HLt.out; have := HW.out; omega))
    replace HE := Lib.hid hE
    replace HO := Lib.hid hO
    replace HC := Lib.hid hc
    replace HG := Lib.hid (grown_trans HG.out hg)
    clear hc hg hE hO
    have k9 := blk_set HE.out 1 (.int .i64 z)
    have g9 := grown_set w6 G 1 (.int .i64 z)
    have hO := HO.out.kept g9 (Or.inr (fun hh => owns_ne_box (by decide) HO.out HE.out _ hh rfl))
    have hC := HC.out.kept g9 (fun h => by injection h with h; have := HGl.out; have := HLt.out; have := HW.out; omega) (fun r hr => by injection hr with hr; have := HGl.out; have := HLt.out; have := HW.out; omega)
    have hG := grown_own HG.out g9 (fun r hr => by injection hr with hr; have := HGl.out; omega)
    obtain ⟨f0, f1, f2⟩ := rfr HE.out
    obtain ⟨c0, c1, c2⟩ := rcs HE.out
    have hE : (w6.setCell ⟨G, 1, none⟩ (.int .i64 z)).heap[G]? = some (.cells #[.int .i64 c, .int .i64 z, .slice a nl cp] 26 (0, 0)) := k9
    replace HE := Lib.hid hE
    replace HO := Lib.hid hO
    replace HC := Lib.hid hC
    replace HG := Lib.hid hG
    clear k9 g9 hO hC hG hE
    have hk := (HG.out.block _ HL0.out (fun h => by injection h with h; have := HLt.out; omega)).trans HZ.out
    obtain ⟨q0, q1, q2⟩ := rcs hk
    obtain ⟨f0, f1, f2⟩ := rfr hk
    obtain ⟨x0, x1, x2⟩ := rcs HE.out
    obtain ⟨k9, g9⟩ := rst hk (.int .i64 c) (.int .i64 z) (.slice a nl cp)
    obtain ⟨r0, r1, r2⟩ := rcs k9
    have HO9 := Lib.hid ((HO.out.kept g9 (Or.inr (fun hh => by have := (HO.out.lt _ hh).1; have := HW.out; omega))).mono (show w.heap.size ≤ W0.heap.size by have := HW.out; omega))
    have HC9 := Lib.hid (HC.out.kept g9 (fun h => by injection h with h; have := HLt.out; omega) (fun r hr => by injection hr with hr; have := HLt.out; omega))
    have HG9 := Lib.hid (grown_own (grown_trans (grown_none HG0.out) HG.out) g9 (fun r hr => by injection hr with hr; omega))
    clear k9 g9 hk
    go_wp2_with fail
    exact bodyPost_ret (v := .agg #[.int .i64 c, .int .i64 z, .slice a nl cp]) (by simp [results, Try.results13, go_sem, r0, r1, r2]) rfl ⟨c, z, _, xs, rfl, HCb.out, ⟨z0, z1⟩, by have := HXl.out; omega, HO9.out, HC9.out, HG9.out⟩
  case neg =>
  by_cases h2 : y = 2
  case pos =>
    subst h2
    clear h0 h1
    obtain ⟨s1, hs1⟩ : ∃ x, x = s - 1 := ⟨_, rfl⟩
    have hs1w : IntKind.i64.wrap (s - 1) = s1 := by rw [hs1]; exact wrap_in19 (by have := HSb.out; omega) (by have := HSb.out; omega)
    have HS1 := Lib.hid hs1
    clear hs1
    go_wp2_with fail
    refine region_till (fun u => u.cell? ⟨G, 0, none⟩ = some (.int .i64 c) ∧ u.cell? ⟨G, 1, none⟩ = some (.int .i64 s) ∧ u.cell? ⟨G, 2, none⟩ = some (.slice a nl cp)) 16 (by kernel_rfl) ?_
    obtain ⟨wd, hwd⟩ : ∃ x, x = w5.drew := ⟨_, rfl⟩
    have hb : Below w5.heap.size w5 wd := by rw [hwd]; exact (Below.refl _ _).drew
    rw [← hwd]
    clear hwd
    replace HE := Lib.hid (rstand HE.out hb)
    replace HO := Lib.hid (HO.out.next hb)
    replace HC := Lib.hid (HC.out.kept (grown_of_below hb) (by simp) (fun r hr => by cases hr))
    replace HG := Lib.hid (grown_trans HG.out (grown_none (grown_of_below hb)))
    clear hb
    have s0 := rcs HE.out
    apply Till.take (i := 0) [0, 1, 14, 16]
    · simp only [List.getElem?_toArray, List.getElem?_cons_zero]
      rfl
    · kernel_rfl
    · kernel_rfl
    · kernel_rfl
    · kernel_rfl
    · exact fun _ _ _ h => h
    · first
        | exact Or.inr ⟨by rfl, rfl⟩
        | (refine Or.inl ⟨by rfl, fun wq hwq => ?_⟩
           dsimp only at hwq
           go_simp
           first
             | done
             | rfl)
    · exact s0
    simp only [Act.put, List.setIfInBounds_toArray, List.set_cons_zero, List.set_cons_succ]
    apply Till.take (i := 1) [1, 14, 16]
    · simp only [List.getElem?_toArray, List.getElem?_cons_succ, List.getElem?_cons_zero]
      rfl
    · kernel_rfl
    · kernel_rfl
    · kernel_rfl
    · kernel_rfl
    · exact fun _ _ _ h => h
    · first
        | exact Or.inr ⟨by rfl, rfl⟩
        | (refine Or.inl ⟨by rfl, fun wq hwq => ?_⟩
           dsimp only at hwq
           go_simp
           first
             | done
             | rfl)
    · exact s0
    simp only [Act.put, List.setIfInBounds_toArray, List.set_cons_zero, List.set_cons_succ]
    apply Till.take (i := 2) [2, 9, 12, 13, 14, 16]
    · simp only [List.getElem?_toArray, List.getElem?_cons_succ, List.getElem?_cons_zero]
      rfl
    · kernel_rfl
    · kernel_rfl
    · kernel_rfl
    · kernel_rfl
    · exact fun _ _ _ h => h
    · first
        | exact Or.inr ⟨by rfl, rfl⟩
        | (refine Or.inl ⟨by rfl, fun wq hwq => ?_⟩
           dsimp only at hwq
           go_simp
           first
             | done
             | rfl)
    · exact s0
    simp only [Act.put, List.setIfInBounds_toArray, List.set_cons_zero, List.set_cons_succ]
    apply Till.take (i := 3) [3, 4, 5, 8, 9, 12, 13, 14, 16]
    · simp only [List.getElem?_toArray, List.getElem?_cons_succ, List.getElem?_cons_zero]
      rfl
    · kernel_rfl
    · kernel_rfl
    · kernel_rfl
    · kernel_rfl
    · exact fun _ _ _ h => h
    · first
        | exact Or.inr ⟨by rfl, rfl⟩
        | (refine Or.inl ⟨by rfl, fun wq hwq => ?_⟩
           dsimp only at hwq
           go_simp
           first
             | done
             | rfl)
    · exact s0
    simp only [Act.put, List.setIfInBounds_toArray, List.set_cons_zero, List.set_cons_succ]
    apply Till.take (i := 4) [4, 5, 8, 9, 12, 13, 14, 16]
    · simp only [List.getElem?_toArray, List.getElem?_cons_succ, List.getElem?_cons_zero]
      rfl
    · kernel_rfl
    · kernel_rfl
    · kernel_rfl
    · kernel_rfl
    · exact fun _ _ _ h => h
    · first
        | exact Or.inr ⟨by rfl, rfl⟩
        | (refine Or.inl ⟨by rfl, fun wq hwq => ?_⟩
           dsimp only at hwq
           go_simp
           first
             | done
             | rfl)
    · exact s0
    simp only [Act.put, List.setIfInBounds_toArray, List.set_cons_zero, List.set_cons_succ]
    apply Till.take (i := 5) [5, 8, 9, 12, 13, 14, 16]
    · simp only [List.getElem?_toArray, List.getElem?_cons_succ, List.getElem?_cons_zero]
      rfl
    · kernel_rfl
    · kernel_rfl
    · kernel_rfl
    · kernel_rfl
    · exact fun _ _ _ h => h
    · first
        | exact Or.inr ⟨by rfl, rfl⟩
        | (refine Or.inl ⟨by rfl, fun wq hwq => ?_⟩
           dsimp only at hwq
           go_simp
           first
             | done
             | rfl)
    · exact s0
    simp only [Act.put, List.setIfInBounds_toArray, List.set_cons_zero, List.set_cons_succ]
    apply Till.take (i := 6) [6, 7, 8, 9, 12, 13, 14, 16]
    · simp only [List.getElem?_toArray, List.getElem?_cons_succ, List.getElem?_cons_zero]
      rfl
    · kernel_rfl
    · kernel_rfl
    · kernel_rfl
    · kernel_rfl
    · exact fun _ _ _ h => h
    · first
        | exact Or.inr ⟨by rfl, rfl⟩
        | (refine Or.inl ⟨by rfl, fun wq hwq => ?_⟩
           dsimp only at hwq
           go_simp
           first
             | done
             | rfl)
    · exact s0
    simp only [Act.put, List.setIfInBounds_toArray, List.set_cons_zero, List.set_cons_succ]
    apply Till.take (i := 7) [7, 8, 9, 12, 13, 14, 16]
    · simp only [List.getElem?_toArray, List.getElem?_cons_succ, List.getElem?_cons_zero]
      rfl
    · kernel_rfl
    · kernel_rfl
    · kernel_rfl
    · kernel_rfl
    · exact fun _ _ _ h => h
    · first
        | exact Or.inr ⟨by rfl, rfl⟩
        | (refine Or.inl ⟨by rfl, fun wq hwq => ?_⟩
           dsimp only at hwq
           go_simp
           first
             | done
             | rfl)
    · exact s0
    simp only [Act.put, List.setIfInBounds_toArray, List.set_cons_zero, List.set_cons_succ]
    apply Till.take (i := 10) [10, 11, 12, 13, 14, 16]
    · simp only [List.getElem?_toArray, List.getElem?_cons_succ, List.getElem?_cons_zero]
      rfl
    · kernel_rfl
    · kernel_rfl
    · kernel_rfl
    · kernel_rfl
    · exact fun _ _ _ h => h
    · first
        | exact Or.inr ⟨by rfl, rfl⟩
        | (refine Or.inl ⟨by rfl, fun wq hwq => ?_⟩
           dsimp only at hwq
           go_simp
           first
             | done
             | rfl)
    · exact s0
    simp only [Act.put, List.setIfInBounds_toArray, List.set_cons_zero, List.set_cons_succ]
    apply Till.one (i := 8)
    · kernel_rfl
    · simp only [List.getElem?_toArray, List.getElem?_cons_succ, List.getElem?_cons_zero]
      rfl
    intro K hK
    go_simp
    clear s0
    have s0 : (wd.alloc (.cells #[.int .i64 (-1), .int .i64 0, .int .i64 s1, .int .i64 s] 3)).cell? ⟨G, 0, none⟩ = some (.int .i64 c) ∧ (wd.alloc (.cells #[.int .i64 (-1), .int .i64 0, .int .i64 s1, .int .i64 s] 3)).cell? ⟨G, 1, none⟩ = some (.int .i64 s) ∧ (wd.alloc (.cells #[.int .i64 (-1), .int .i64 0, .int .i64 s1, .int .i64 s] 3)).cell? ⟨G, 2, none⟩ = some (.slice a nl cp) := rcs ((heap_alloc_old wd (.cells #[.int .i64 (-1), .int .i64 0, .int .i64 s1, .int .i64 s] 3) (lt_of_block HE.out)).trans HE.out)
    refine hK.out _ _ (Or.inr s0) ?_
    clear hK K
    try simp only [Act.put, List.setIfInBounds_toArray, List.set_cons_zero, List.set_cons_succ]
    apply Till.one (i := 9)
    · kernel_rfl
    · simp only [List.getElem?_toArray, List.getElem?_cons_succ, List.getElem?_cons_zero]
      rfl
    intro K hK
    go_simp
    refine (int_alloc B b (-1) 100000 [-1, 0, s1, s] 3 4 _ HC.out rfl (by omega) (by omega) (by intro z hz; have h1 := HSb.out; have h2 := HS1.out; simp at hz; omega)).mono ?_
    rintro e' w6 ⟨z, z0, z1, he, hc, hg⟩
    subst he
    clear s0
    have hE := (hg.block _ (lt_of_block HE.out) (fun h => by injection h with h; have := HGl.out; have := HLt.out; have := HW.out; omega)).trans HE.out
    have hO := HO.out.kept hg (Or.inr (fun hh => by have := (HO.out.lt _ hh).1; have := HLt.out; have := HW.out; omega))
    replace HE := Lib.hid hE
    replace HO := Lib.hid hO
    replace HC := Lib.hid hc
    replace HG := Lib.hid (grown_trans HG.out hg)
    clear hc hg hE hO
    have s0 := rcs HE.out
    refine hK.out _ _ (Or.inr s0) ?_
    clear hK K
    try simp only [Act.put, List.setIfInBounds_toArray, List.set_cons_zero, List.set_cons_succ]
    apply Till.one (i := 11)
    · kernel_rfl
    · simp only [List.getElem?_toArray, List.getElem?_cons_succ, List.getElem?_cons_zero]
      rfl
    intro K hK
    go_simp
    refine (key13 B b _ HC.out).mono ?_
    rintro e' w7 ⟨k, k0, k1, he, hc, hg⟩
    subst he
    clear s0
    have hE := (hg.block _ (lt_of_block HE.out) (fun h => by injection h with h; have := HGl.out; have := HLt.out; have := HW.out; omega)).trans HE.out
    have hO := HO.out.kept hg (Or.inr (fun hh => by have := (HO.out.lt _ hh).1; have := HLt.out; have := HW.out; omega))
    replace HE := Lib.hid hE
    replace HO := Lib.hid hO
    replace HC := Lib.hid hc
    replace HG := Lib.hid (grown_trans HG.out hg)
    clear hc hg hE hO
    have s0 := rcs HE.out
    refine hK.out _ _ (Or.inr s0) ?_
    clear hK K
    try simp only [Act.put, List.setIfInBounds_toArray, List.set_cons_zero, List.set_cons_succ]
    apply Till.take (i := 12) [12, 13, 14, 16]
    · simp only [List.getElem?_toArray, List.getElem?_cons_succ, List.getElem?_cons_zero]
      rfl
    · kernel_rfl
    · kernel_rfl
    · kernel_rfl
    · kernel_rfl
    · exact fun _ _ _ h => h
    · first
        | exact Or.inr ⟨by rfl, rfl⟩
        | (refine Or.inl ⟨by rfl, fun wq hwq => ?_⟩
           dsimp only at hwq
           go_simp
           first
             | done
             | rfl)
    · exact s0
    simp only [Act.put, List.setIfInBounds_toArray, List.set_cons_zero, List.set_cons_succ]
    apply Till.one (i := 13)
    · kernel_rfl
    · simp only [List.getElem?_toArray, List.getElem?_cons_succ, List.getElem?_cons_zero]
      rfl
    intro K hK
    go_simp
    have hb : Below w7.heap.size w7 (w7.alloc (.cells #[.int .i64 z, .int .i64 k] 40)) := (Below.refl _ _).alloc (Nat.le_refl _) _
    have HR1 := Lib.hid (kep_one (B := w7.heap.size) (w := w7) (s := z) (m := k) (Nat.le_refl _) (w19 (by omega) (by omega)) (w19 (by omega) (by omega))).rd
    clear s0
    replace HE := Lib.hid (rstand HE.out hb)
    replace HO := Lib.hid (HO.out.next hb)
    replace HC := Lib.hid (HC.out.kept (grown_of_below hb) (by simp) (fun r hr => by cases hr))
    replace HG := Lib.hid (grown_trans HG.out (grown_none (grown_of_below hb)))
    clear hb
    have s0 : (w7.alloc (.cells #[.int .i64 z, .int .i64 k] 40)).cell? ⟨G, 0, none⟩ = some (.int .i64 c) ∧ (w7.alloc (.cells #[.int .i64 z, .int .i64 k] 40)).cell? ⟨G, 1, none⟩ = some (.int .i64 s) ∧ (w7.alloc (.cells #[.int .i64 z, .int .i64 k] 40)).cell? ⟨G, 2, none⟩ = some (.slice a nl cp) := rcs HE.out
    refine hK.out _ _ (Or.inr s0) ?_
    clear hK K
    try simp only [Act.put, List.setIfInBounds_toArray, List.set_cons_zero, List.set_cons_succ]
    obtain ⟨w8, hw8⟩ : ∃ x, x = w7.alloc (.cells #[.int .i64 z, .int .i64 k] 40) := ⟨_, rfl⟩
    rw [← hw8] at HE HO HC HG HR1 s0 ⊢
    clear hw8
    apply Till.one (i := 14)
    · kernel_rfl
    · simp only [List.getElem?_toArray, List.getElem?_cons_succ, List.getElem?_cons_zero]
      rfl
    intro K hK
    refine step_append_rdS _ (by rfl) _ _ 24 (by rfl) 40 i0 (.agg #[.int .i64 0, .int .i64 0]) 16 Try.underlying24 Hhi.out hz0 hz1 hz2 rfl (by omega) (by rfl) HO.out (by rfl) HR1.out (by have := HXl.out; simp only [List.length_singleton]; omega) ?_
    intro v9 w9 h9 hg
    have hlo := HO.out
    have hE := (hg.block _ (lt_of_block HE.out) (fun h => owns_ne_box (by decide) hlo HE.out _ h.symm rfl)).trans HE.out
    have hC := HC.out.kept hg (fun h => by have := (hlo.lt _ h).1; have := HLt.out; have := HW.out; omega) (fun r hr => by have := (hlo.lt r hr).1; have := HLt.out; have := HW.out; omega)
    have hG := grown_own HG.out hg (fun r hr => (hlo.lt r hr).1)
    obtain ⟨a9, c9, hv9, _⟩ := h9.open
    subst hv9
    obtain ⟨nl9, hnl9⟩ : ∃ x, x = (xs ++ [(z, k)]).length := ⟨_, rfl⟩
    rw [← hnl9] at h9 ⊢
    have HXl9 : Hid ((xs ++ [(z, k)]).length ≤ 9) := Lib.hid (by have := HXl.out; rw [List.length_append, List.length_singleton]; omega)
    replace HE := Lib.hid hE
    replace HO := Lib.hid h9
    replace HC := Lib.hid hC
    replace HG := Lib.hid hG
    clear hlo h9 hg hE hC hG s0 hnl9
    have s0 := rcs HE.out
    refine hK.out _ _ (Or.inr s0) ?_
    clear hK K
    try simp only [Act.put, List.setIfInBounds_toArray, List.set_cons_zero, List.set_cons_succ]
    apply Till.take (i := 15) [15, 16]
    · simp only [List.getElem?_toArray, List.getElem?_cons_succ, List.getElem?_cons_zero]
      rfl
    · kernel_rfl
    · kernel_rfl
    · kernel_rfl
    · kernel_rfl
    · exact fun _ _ _ h => h
    · first
        | exact Or.inr ⟨by rfl, rfl⟩
        | (refine Or.inl ⟨by rfl, fun wq hwq => ?_⟩
           dsimp only at hwq
           go_simp
           first
             | done
             | rfl)
    · exact s0
    simp only [Act.put, List.setIfInBounds_toArray, List.set_cons_zero, List.set_cons_succ]
    clear s0
    have k9 := blk_set HE.out 2 (.slice a9 nl9 c9)
    have g9 := grown_set w9 G 2 (.slice a9 nl9 c9)
    have hO := HO.out.kept g9 (Or.inr (fun hh => owns_ne_box (by decide) HO.out HE.out _ hh rfl))
    have hC := HC.out.kept g9 (fun h => by injection h with h; have := HGl.out; have := HLt.out; have := HW.out; omega) (fun r hr => by injection hr with hr; have := HGl.out; have := HLt.out; have := HW.out; omega)
    have hG := grown_own HG.out g9 (fun r hr => by injection hr with hr; have := HGl.out; omega)
    obtain ⟨f0, f1, f2⟩ := rfr HE.out
    obtain ⟨c0, c1, c2⟩ := rcs HE.out
    have hE : (w9.setCell ⟨G, 2, none⟩ (.slice a9 nl9 c9)).heap[G]? = some (.cells #[.int .i64 c, .int .i64 s, .slice a9 nl9 c9] 26 (0, 0)) := k9
    replace HE := Lib.hid hE
    replace HO := Lib.hid hO
    replace HC := Lib.hid hC
    replace HG := Lib.hid hG
    clear k9 g9 hO hC hG hE
    apply Till.one (i := 16)
    · kernel_rfl
    · simp only [List.getElem?_toArray, List.getElem?_cons_succ, List.getElem?_cons_zero]
      rfl
    intro K hK
    go_simp
    skip
    refine hK.out _ _ (Or.inl (by rfl)) ?_
    clear hK K
    try simp only [Act.put, List.setIfInBounds_toArray, List.set_cons_zero, List.set_cons_succ]
    refine Till.done (by kernel_rfl) ?_ _
    clear f0 f1 f2 c0 c1 c2
    obtain ⟨wx, hwx⟩ : ∃ x, x = w9.setCell ⟨G, 2, none⟩ (.slice a9 nl9 c9) := ⟨_, rfl⟩
    rw [← hwx] at HE HO HC HG ⊢
    clear hwx
    have hk := (HG.out.block _ HL0.out (fun h => by injection h with h; have := HLt.out; omega)).trans HZ.out
    obtain ⟨q0, q1, q2⟩ := rcs hk
    obtain ⟨f0, f1, f2⟩ := rfr hk
    obtain ⟨x0, x1, x2⟩ := rcs HE.out
    obtain ⟨k9, g9⟩ := rst hk (.int .i64 c) (.int .i64 s) (.slice a9 nl9 c9)
    obtain ⟨r0, r1, r2⟩ := rcs k9
    have HO9 := Lib.hid ((HO.out.kept g9 (Or.inr (fun hh => by have := (HO.out.lt _ hh).1; have := HW.out; omega))).mono (show w.heap.size ≤ W0.heap.size by have := HW.out; omega))
    have HC9 := Lib.hid (HC.out.kept g9 (fun h => by injection h with h; have := HLt.out; omega) (fun r hr => by injection hr with hr; have := HLt.out; omega))
    have HG9 := Lib.hid (grown_own (grown_trans (grown_none HG0.out) HG.out) g9 (fun r hr => by injection hr with hr; omega))
    clear k9 g9 hk
    go_wp2_with fail
    exact bodyPost_ret (v := .agg #[.int .i64 c, .int .i64 s, .slice a9 nl9 c9]) (by simp [results, Try.results13, go_sem, r0, r1, r2]) rfl ⟨c, s, _, _, rfl, HCb.out, by have := HSb.out; omega, HXl9.out, HO9.out, HC9.out, HG9.out⟩
  case neg =>
    have e4 : (y == 0) = false := beq_eq_false_iff_ne.2 h0
    have e5 : (y == 1) = false := beq_eq_false_iff_ne.2 h1
    have e6 : (y == 2) = false := beq_eq_false_iff_ne.2 h2
    clear h0 h1 h2
    have hk := (HG.out.block _ HL0.out (fun h => by injection h with h; have := HLt.out; omega)).trans HZ.out
    obtain ⟨q0, q1, q2⟩ := rcs hk
    obtain ⟨f0, f1, f2⟩ := rfr hk
    obtain ⟨x0, x1, x2⟩ := rcs HE.out
    obtain ⟨k9, g9⟩ := rst hk (.int .i64 c) (.int .i64 s) (.slice a nl cp)
    obtain ⟨r0, r1, r2⟩ := rcs k9
    have HO9 := Lib.hid ((HO.out.kept g9 (Or.inr (fun hh => by have := (HO.out.lt _ hh).1; have := HW.out; omega))).mono (show w.heap.size ≤ W0.heap.size by have := HW.out; omega))
    have HC9 := Lib.hid (HC.out.kept g9 (fun h => by injection h with h; have := HLt.out; omega) (fun r hr => by injection hr with hr; have := HLt.out; omega))
    have HG9 := Lib.hid (grown_own (grown_trans (grown_none HG0.out) HG.out) g9 (fun r hr => by injection hr with hr; omega))
    clear k9 g9 hk
    go_wp2_with fail
    exact bodyPost_ret (v := .agg #[.int .i64 c, .int .i64 s, .slice a nl cp]) (by simp [results, Try.results13, go_sem, r0, r1, r2]) rfl ⟨c, s, _, xs, rfl, HCb.out, by have := HSb.out; omega, by have := HXl.out; omega, HO9.out, HC9.out, HG9.out⟩

end Go.Proofs.Ytlbijjifeaimjaa
