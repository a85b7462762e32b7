/- Spent lists: copies, a serial number put into its place; the program's and the document's. No conditions but numbers and lengths that a machine holds. -/
import Derived.Test.YtdlbpeippmibcaaSp2
import Derived.Test.YtdlbpeippmibcaaBa2
import Derived.Test.YtdlbpeippmibcaaBa8
import Derived.Test.YtdlbpeippmibcaaHeldL
namespace Go.Proofs.Ytdlbpeippmibcaa
open Go Go.RowKit
set_option linter.unusedVariables false
set_option maxRecDepth 20000
attribute [local irreducible] kh kid pwm tcm pw chl

set_option maxHeartbeats 4000000 in
/-- impl.copySpentList -/
theorem impl_cpy {lim : Nat} {w : World} {v : Value} {zs : List Int} {e : Int} (h : Rd lim .i64 w v zs) (hlim : lim ≤ w.heap.size) (hn : zs.length ≤ 17592186044415) :
    Calls Try.prog 50 #[.agg #[.int .i64 e, v]] w fun x w' => ∃ v', x = .returned (.agg #[.int .i64 e, v']) ∧ Own 3 .i64 w.heap.size w' v' zs ∧ Below w.heap.size w w' := by
  obtain ⟨p, cap, rfl, h1, h2, hc⟩ := h.open
  have K := blocks2T w (.cells #[.int .i64 e, .slice p zs.length cap] 26) (.cells #[.int .i64 0, .slice none 0 0] 26)
  have hb := ((Below.refl w.heap.size w).alloc (Nat.le_refl _) (.cells #[.int .i64 e, .slice p zs.length cap] 26)).alloc (by simp) (.cells #[.int .i64 0, .slice none 0 0] 26)
  obtain ⟨W0, hW0⟩ : ∃ W, W = (w.alloc (.cells #[.int .i64 e, .slice p zs.length cap] 26)).alloc (.cells #[.int .i64 0, .slice none 0 0] 26) := ⟨_, rfl⟩
  rw [← hW0] at K hb
  have HW0 := Lib.hid hW0
  have HA := Lib.hid K.1
  have HC := Lib.hid K.2
  have HB0 := Lib.hid hb
  have HRd := Lib.hid (h.behind (hb.mono hlim))
  have HLm := Lib.hid (show lim ≤ W0.heap.size from Nat.le_trans hlim hb.size)
  have HLt := Lib.hid (lt_of_block K.2)
  have HS : Hid (∀ x, Below W0.heap.size W0 x → (x.cell? ⟨w.heap.size, 0, none⟩ = some (.int .i64 e) ∧ x.cell? ⟨w.heap.size, 1, none⟩ = some (.slice p zs.length cap))) := Lib.hid (fun x hx => by obtain ⟨q0, q1, _⟩ := scs ((hx.block _ (lt_of_block K.1)).trans K.1); exact ⟨q0, q1⟩)
  have Hc := Lib.hid hc
  have H := Lib.hid h
  have HN := Lib.hid hn
  have hlen : zs.length ≤ 9223372036854775807 := by unfold maxLen at h2; omega
  clear h hc K hb hW0 hn
  unfold maxLen at h2
  go_enter Try.func50, Try.ntmps50
  go_wp2_with fail
  rw [← HW0.out]
  refine region_till (fun x => x.cell? ⟨w.heap.size, 0, none⟩ = some (.int .i64 e) ∧ x.cell? ⟨w.heap.size, 1, none⟩ = some (.slice p zs.length cap)) 6 (by kernel_rfl) ?_
  obtain ⟨wd, hwd⟩ : ∃ x, x = W0.drew := ⟨_, rfl⟩
  have HB : Hid (Below W0.heap.size W0 wd) := Lib.hid (by rw [hwd]; exact (Below.refl _ _).drew)
  have d0 := HS.out _ HB.out
  rw [← hwd]
  clear hwd
  apply Till.take (i := 0) [0, 1, 5, 6]
  · simp only [List.getElem?_toArray, List.getElem?_cons_zero]
    rfl
  · kernel_rfl
  · kernel_rfl
  · kernel_rfl
  · kernel_rfl
  · exact fun _ _ _ h => h
  · first
      | exact Or.inr ⟨by rfl, rfl⟩
      | (refine Or.inl ⟨by rfl, fun wq hwq => ?_⟩
         dsimp only at hwq
         go_simp
         first
           | done
           | rfl)
  · exact d0
  simp only [Act.put, List.setIfInBounds_toArray, List.set_cons_zero, List.set_cons_succ]
  apply Till.take (i := 1) [1, 5, 6]
  · simp only [List.getElem?_toArray, List.getElem?_cons_succ, List.getElem?_cons_zero]
    rfl
  · kernel_rfl
  · kernel_rfl
  · kernel_rfl
  · kernel_rfl
  · exact fun _ _ _ h => h
  · first
      | exact Or.inr ⟨by rfl, rfl⟩
      | (refine Or.inl ⟨by rfl, fun wq hwq => ?_⟩
         dsimp only at hwq
         go_simp
         first
           | done
           | rfl)
  · exact d0
  simp only [Act.put, List.setIfInBounds_toArray, List.set_cons_zero, List.set_cons_succ]
  apply Till.take (i := 2) [2, 3, 4, 5, 6]
  · simp only [List.getElem?_toArray, List.getElem?_cons_succ, List.getElem?_cons_zero]
    rfl
  · kernel_rfl
  · kernel_rfl
  · kernel_rfl
  · kernel_rfl
  · exact fun _ _ _ h => h
  · first
      | exact Or.inr ⟨by rfl, rfl⟩
      | (refine Or.inl ⟨by rfl, fun wq hwq => ?_⟩
         dsimp only at hwq
         go_simp
         first
           | done
           | rfl)
  · exact d0
  simp only [Act.put, List.setIfInBounds_toArray, List.set_cons_zero, List.set_cons_succ]
  apply Till.take (i := 3) [3, 4, 5, 6]
  · simp only [List.getElem?_toArray, List.getElem?_cons_succ, List.getElem?_cons_zero]
    rfl
  · kernel_rfl
  · kernel_rfl
  · kernel_rfl
  · kernel_rfl
  · exact fun _ _ _ h => h
  · first
      | exact Or.inr ⟨by rfl, rfl⟩
      | (refine Or.inl ⟨by rfl, fun wq hwq => ?_⟩
         dsimp only at hwq
         go_simp
         first
           | done
           | rfl)
  · exact d0
  simp only [Act.put, List.setIfInBounds_toArray, List.set_cons_zero, List.set_cons_succ]
  apply Till.one (i := 4)
  · kernel_rfl
  · simp only [List.getElem?_toArray, List.getElem?_cons_succ, List.getElem?_cons_zero]
    rfl
  intro K hK
  go_simp
  refine (clone_ints (HRd.out.behind (HB.out.mono HLm.out)) (Nat.le_trans HLm.out HB.out.size) HN.out).mono ?_
  rintro e' w3 ⟨v3, he, hO, hb⟩
  subst he
  obtain ⟨a3, c3, hv, _⟩ := hO.open
  subst hv
  have hB := HB.out.trans (hb.mono HB.out.size)
  have d1 := HS.out _ hB
  have HO : Hid (Own 3 .i64 W0.heap.size w3 (.slice a3 zs.length c3) zs) := Lib.hid (hO.mono HB.out.size)
  replace HB := Lib.hid hB
  clear hO hb hB d0
  have d0 := d1
  clear d1
  refine hK.out _ _ (Or.inr d0) ?_
  clear hK K
  try simp only [Act.put, List.setIfInBounds_toArray, List.set_cons_zero, List.set_cons_succ]
  apply Till.take (i := 5) [5, 6]
  · simp only [List.getElem?_toArray, List.getElem?_cons_succ, List.getElem?_cons_zero]
    rfl
  · kernel_rfl
  · kernel_rfl
  · kernel_rfl
  · kernel_rfl
  · exact fun _ _ _ h => h
  · first
      | exact Or.inr ⟨by rfl, rfl⟩
      | (refine Or.inl ⟨by rfl, fun wq hwq => ?_⟩
         dsimp only at hwq
         go_simp
         first
           | done
           | rfl)
  · exact d0
  simp only [Act.put, List.setIfInBounds_toArray, List.set_cons_zero, List.set_cons_succ]
  have hCc := (HB.out.block _ HLt.out).trans HC.out
  obtain ⟨q0, q1, f0, f1⟩ := scs hCc
  obtain ⟨k9, g9⟩ := sst hCc (.int .i64 e) (.slice a3 zs.length c3)
  obtain ⟨r0, r1, _⟩ := scs k9
  have hB9 := (HB0.out.trans (HB.out.mono HB0.out.size)).grown g9 (HB0.out.trans (HB.out.mono HB0.out.size)).size (fun k hk => by injection hk with hk; omega)
  have hO9 := HO.out.kept g9 (Or.inr (fun hh => by have := (HO.out.lt _ hh).1; have := HLt.out; omega))
  have HB9 := Lib.hid hB9
  have HO9 := Lib.hid (hO9.mono HB0.out.size)
  clear k9 g9 hCc hB9 hO9
  apply Till.one (i := 6)
  · kernel_rfl
  · simp only [List.getElem?_toArray, List.getElem?_cons_succ, List.getElem?_cons_zero]
    rfl
  intro K hK
  go_simp
  skip
  refine hK.out _ _ (Or.inl (by rfl)) ?_
  clear hK K
  try simp only [Act.put, List.setIfInBounds_toArray, List.set_cons_zero, List.set_cons_succ]
  refine Till.done (by kernel_rfl) ?_ _
  go_wp2_with fail
  exact bodyPost_ret (v := .agg #[.int .i64 e, .slice a3 zs.length c3]) (by simp [results, Try.results50, go_sem, r0, r1]) rfl ⟨_, rfl, HO9.out, HB9.out⟩

set_option maxHeartbeats 4000000 in
/-- spec.l17Copy -/
theorem spec_cpy {lim : Nat} {w : World} {v : Value} {zs : List Int} {e : Int} (h : Rd lim .i64 w v zs) (hlim : lim ≤ w.heap.size) (hn : zs.length ≤ 17592186044415) :
    Calls Try.prog 54 #[.agg #[.int .i64 e, v]] w fun x w' => ∃ v', x = .returned (.agg #[.int .i64 e, v']) ∧ Own 3 .i64 w.heap.size w' v' zs ∧ Below w.heap.size w w' := by
  obtain ⟨i0, hi, hz0, hz1, hz2⟩ := info_parts infoi64
  have Hhi := Lib.hid hi
  clear hi
  obtain ⟨p, cap, rfl, h1, h2, hc⟩ := h.open
  have K := blocks2T w (.cells #[.int .i64 e, .slice p zs.length cap] 26) (.cells #[.int .i64 0, .slice none 0 0] 26)
  have hb := ((Below.refl w.heap.size w).alloc (Nat.le_refl _) (.cells #[.int .i64 e, .slice p zs.length cap] 26)).alloc (by simp) (.cells #[.int .i64 0, .slice none 0 0] 26)
  obtain ⟨W0, hW0⟩ : ∃ W, W = (w.alloc (.cells #[.int .i64 e, .slice p zs.length cap] 26)).alloc (.cells #[.int .i64 0, .slice none 0 0] 26) := ⟨_, rfl⟩
  rw [← hW0] at K hb
  have HW0 := Lib.hid hW0
  have HA := Lib.hid K.1
  have HC := Lib.hid K.2
  have HB0 := Lib.hid hb
  have HRd := Lib.hid (h.behind (hb.mono hlim))
  have HLm := Lib.hid (show lim ≤ W0.heap.size from Nat.le_trans hlim hb.size)
  have HLt := Lib.hid (lt_of_block K.2)
  have HS : Hid (∀ x, Below W0.heap.size W0 x → (x.cell? ⟨w.heap.size, 0, none⟩ = some (.int .i64 e) ∧ x.cell? ⟨w.heap.size, 1, none⟩ = some (.slice p zs.length cap))) := Lib.hid (fun x hx => by obtain ⟨q0, q1, _⟩ := scs ((hx.block _ (lt_of_block K.1)).trans K.1); exact ⟨q0, q1⟩)
  have Hc := Lib.hid hc
  have H := Lib.hid h
  have HN := Lib.hid hn
  have hlen : zs.length ≤ 9223372036854775807 := by unfold maxLen at h2; omega
  clear h hc K hb hW0 hn
  unfold maxLen at h2
  go_enter Try.func54, Try.ntmps54
  go_wp2_with fail
  rw [← HW0.out]
  refine region_till (fun x => x.cell? ⟨w.heap.size, 0, none⟩ = some (.int .i64 e) ∧ x.cell? ⟨w.heap.size, 1, none⟩ = some (.slice p zs.length cap)) 7 (by kernel_rfl) ?_
  obtain ⟨wd, hwd⟩ : ∃ x, x = W0.drew := ⟨_, rfl⟩
  have HB : Hid (Below W0.heap.size W0 wd) := Lib.hid (by rw [hwd]; exact (Below.refl _ _).drew)
  have d0 := HS.out _ HB.out
  rw [← hwd]
  clear hwd
  apply Till.take (i := 0) [0, 1, 6, 7]
  · simp only [List.getElem?_toArray, List.getElem?_cons_zero]
    rfl
  · kernel_rfl
  · kernel_rfl
  · kernel_rfl
  · kernel_rfl
  · exact fun _ _ _ h => h
  · first
      | exact Or.inr ⟨by rfl, rfl⟩
      | (refine Or.inl ⟨by rfl, fun wq hwq => ?_⟩
         dsimp only at hwq
         go_simp
         first
           | done
           | rfl)
  · exact d0
  simp only [Act.put, List.setIfInBounds_toArray, List.set_cons_zero, List.set_cons_succ]
  apply Till.take (i := 1) [1, 6, 7]
  · simp only [List.getElem?_toArray, List.getElem?_cons_succ, List.getElem?_cons_zero]
    rfl
  · kernel_rfl
  · kernel_rfl
  · kernel_rfl
  · kernel_rfl
  · exact fun _ _ _ h => h
  · first
      | exact Or.inr ⟨by rfl, rfl⟩
      | (refine Or.inl ⟨by rfl, fun wq hwq => ?_⟩
         dsimp only at hwq
         go_simp
         first
           | done
           | rfl)
  · exact d0
  simp only [Act.put, List.setIfInBounds_toArray, List.set_cons_zero, List.set_cons_succ]
  apply Till.take (i := 3) [3, 4, 5, 6, 7]
  · simp only [List.getElem?_toArray, List.getElem?_cons_succ, List.getElem?_cons_zero]
    rfl
  · kernel_rfl
  · kernel_rfl
  · kernel_rfl
  · kernel_rfl
  · exact fun _ _ _ h => h
  · first
      | exact Or.inr ⟨by rfl, rfl⟩
      | (refine Or.inl ⟨by rfl, fun wq hwq => ?_⟩
         dsimp only at hwq
         go_simp
         first
           | done
           | rfl)
  · exact d0
  simp only [Act.put, List.setIfInBounds_toArray, List.set_cons_zero, List.set_cons_succ]
  apply Till.take (i := 4) [4, 5, 6, 7]
  · simp only [List.getElem?_toArray, List.getElem?_cons_succ, List.getElem?_cons_zero]
    rfl
  · kernel_rfl
  · kernel_rfl
  · kernel_rfl
  · kernel_rfl
  · exact fun _ _ _ h => h
  · first
      | exact Or.inr ⟨by rfl, rfl⟩
      | (refine Or.inl ⟨by rfl, fun wq hwq => ?_⟩
         dsimp only at hwq
         go_simp
         first
           | done
           | rfl)
  · exact d0
  simp only [Act.put, List.setIfInBounds_toArray, List.set_cons_zero, List.set_cons_succ]
  apply Till.one (i := 2)
  · kernel_rfl
  · simp only [List.getElem?_toArray, List.getElem?_cons_succ, List.getElem?_cons_zero]
    rfl
  intro K hK
  go_simp
  have hB := HB.out.alloc HB.out.size (.cells #[] 3)
  have d1 := HS.out _ hB
  have HO1 := Lib.hid (Own.lit (w := wd) (B := W0.heap.size) 3 .i64 HB.out.size)
  replace HB := Lib.hid hB
  clear hB d0
  have d0 := d1
  clear d1
  refine hK.out _ _ (Or.inr d0) ?_
  clear hK K
  try simp only [Act.put, List.setIfInBounds_toArray, List.set_cons_zero, List.set_cons_succ]
  obtain ⟨w2, hw2⟩ : ∃ x, x = wd.alloc (.cells #[] 3) := ⟨_, rfl⟩
  rw [← hw2] at HB d0 HO1 ⊢
  clear hw2
  apply Till.one (i := 5)
  · kernel_rfl
  · simp only [List.getElem?_toArray, List.getElem?_cons_succ, List.getElem?_cons_zero]
    rfl
  intro K hK
  refine step_append_rds _ (by rfl) _ _ 24 (by rfl) 3 i0 (.int .i64 0) 8 Try.underlying24 Hhi.out hz0 hz1 hz2 rfl (by omega) (by rfl) HO1.out (by rfl) (HRd.out.behind (HB.out.mono HLm.out)) (by have := HN.out; simp only [List.length_nil]; omega) ?_
  intro v3 w3 hO hg
  have hB := HB.out.trans ((HO1.out).below (Nat.le_refl _) hg)
  have d1 := HS.out _ hB
  replace HB := Lib.hid hB
  have HO0 := Lib.hid (show Own 3 .i64 W0.heap.size w3 v3 zs from hO)
  clear hO hg hB d0
  have d0 := d1
  clear d1
  obtain ⟨a3, c3, hv, _⟩ := HO0.out.open
  subst hv
  have HO : Hid (Own 3 .i64 W0.heap.size w3 (.slice a3 zs.length c3) zs) := HO0
  clear HO1 HO0
  refine hK.out _ _ (Or.inr d0) ?_
  clear hK K
  try simp only [Act.put, List.setIfInBounds_toArray, List.set_cons_zero, List.set_cons_succ]
  apply Till.take (i := 6) [6, 7]
  · simp only [List.getElem?_toArray, List.getElem?_cons_succ, List.getElem?_cons_zero]
    rfl
  · kernel_rfl
  · kernel_rfl
  · kernel_rfl
  · kernel_rfl
  · exact fun _ _ _ h => h
  · first
      | exact Or.inr ⟨by rfl, rfl⟩
      | (refine Or.inl ⟨by rfl, fun wq hwq => ?_⟩
         dsimp only at hwq
         go_simp
         first
           | done
           | rfl)
  · exact d0
  simp only [Act.put, List.setIfInBounds_toArray, List.set_cons_zero, List.set_cons_succ]
  have hCc := (HB.out.block _ HLt.out).trans HC.out
  obtain ⟨q0, q1, f0, f1⟩ := scs hCc
  obtain ⟨k9, g9⟩ := sst hCc (.int .i64 e) (.slice a3 zs.length c3)
  obtain ⟨r0, r1, _⟩ := scs k9
  have hB9 := (HB0.out.trans (HB.out.mono HB0.out.size)).grown g9 (HB0.out.trans (HB.out.mono HB0.out.size)).size (fun k hk => by injection hk with hk; omega)
  have hO9 := HO.out.kept g9 (Or.inr (fun hh => by have := (HO.out.lt _ hh).1; have := HLt.out; omega))
  have HB9 := Lib.hid hB9
  have HO9 := Lib.hid (hO9.mono HB0.out.size)
  clear k9 g9 hCc hB9 hO9
  apply Till.one (i := 7)
  · kernel_rfl
  · simp only [List.getElem?_toArray, List.getElem?_cons_succ, List.getElem?_cons_zero]
    rfl
  intro K hK
  go_simp
  skip
  refine hK.out _ _ (Or.inl (by rfl)) ?_
  clear hK K
  try simp only [Act.put, List.setIfInBounds_toArray, List.set_cons_zero, List.set_cons_succ]
  refine Till.done (by kernel_rfl) ?_ _
  go_wp2_with fail
  exact bodyPost_ret (v := .agg #[.int .i64 e, .slice a3 zs.length c3]) (by simp [results, Try.results54, go_sem, r0, r1]) rfl ⟨_, rfl, HO9.out, HB9.out⟩

set_option maxHeartbeats 16000000 in
/-- spec.l17Insert -/
theorem spec_ins {lim : Nat} {w : World} {v : Value} {zs : List Int} {e m : Int} (h : Rd lim .i64 w v zs) (hlim : lim ≤ w.heap.size) (hn : zs.length ≤ 17592186044414) (hm : (Lit.int .i64 m).wf = true) :
    Calls Try.prog 55 #[.agg #[.int .i64 e, v], .int .i64 m] w fun x w' => ∃ v', x = .returned (.agg #[.int .i64 e, v']) ∧ Own 3 .i64 w.heap.size w' v' (insS zs m) ∧ Below w.heap.size w w' := by
  obtain ⟨i0, hi, hz0, hz1, hz2⟩ := info_parts infoi64
  have Hhi := Lib.hid hi
  have HMw := Lib.hid hm
  clear hi hm
  obtain ⟨p, cap, rfl, h1, h2, hc⟩ := h.open
  have K := blocks2T w (.cells #[.int .i64 e, .slice p zs.length cap] 26) (.cells #[.int .i64 0, .slice none 0 0] 26)
  have hb := ((Below.refl w.heap.size w).alloc (Nat.le_refl _) (.cells #[.int .i64 e, .slice p zs.length cap] 26)).alloc (by simp) (.cells #[.int .i64 0, .slice none 0 0] 26)
  obtain ⟨W0, hW0⟩ : ∃ W, W = (w.alloc (.cells #[.int .i64 e, .slice p zs.length cap] 26)).alloc (.cells #[.int .i64 0, .slice none 0 0] 26) := ⟨_, rfl⟩
  rw [← hW0] at K hb
  have HW0 := Lib.hid hW0
  have HA := Lib.hid K.1
  have HC := Lib.hid K.2
  have HB0 := Lib.hid hb
  have HRd := Lib.hid (h.behind (hb.mono hlim))
  have HLm := Lib.hid (show lim ≤ W0.heap.size from Nat.le_trans hlim hb.size)
  have HLt := Lib.hid (lt_of_block K.2)
  have HS : Hid (∀ x, Below W0.heap.size W0 x → (x.cell? ⟨w.heap.size, 0, none⟩ = some (.int .i64 e) ∧ x.cell? ⟨w.heap.size, 1, none⟩ = some (.slice p zs.length cap))) := Lib.hid (fun x hx => by obtain ⟨q0, q1, _⟩ := scs ((hx.block _ (lt_of_block K.1)).trans K.1); exact ⟨q0, q1⟩)
  have Hc := Lib.hid hc
  have H := Lib.hid h
  have HN := Lib.hid hn
  have hlen : zs.length ≤ 9223372036854775807 := by unfold maxLen at h2; omega
  clear h hc K hb hW0 hn
  unfold maxLen at h2
  have HSl := fun (l n : Nat) (hl : l + n ≤ zs.length) => Lib.hid (HRd.out.sliced (l := l) (n := n) hl)
  go_enter Try.func55, Try.ntmps55
  go_wp2_with fail
  rw [← HW0.out]
  go_loopw [5] (fun i wr => ∃ j : Nat, i = .int .i64 j ∧ j ≤ zs.length ∧ (∀ i, i < j → zs.getD i 0 < m) ∧ wr = W0) (fun i _ => zs.length - (intOf i).toNat)
  case atStart => exact ⟨0, rfl, Nat.zero_le _, fun i hi => by omega, rfl⟩
  case round =>
    obtain ⟨j, rfl, hj, hlo, rfl⟩ := hrel
    have HLo := Lib.hid hlo
    obtain ⟨c0, c1⟩ := HS.out _ (Below.refl _ _)
    clear hlo
    by_cases hlt : j < zs.length
    case pos =>
      have e1 : decide ((j : Int) < (zs.length : Int)) = true := by simp; omega
      have hji : (j : Int) < (zs.length : Int) := by omega
      obtain ⟨b, o, hp, hb, hcell⟩ := Hc.out (by omega)
      have d1 := hcell _ (HB0.out.mono hlim) j hlt
      obtain ⟨z, hz⟩ : ∃ z, z = zs.getD j 0 := ⟨_, rfl⟩
      rw [← hz] at d1
      have HZ := Lib.hid hz
      clear hcell hz
      by_cases hzm : z < m
      · have e2 : decide (z < m) = true := decide_eq_true hzm
        have HZm := Lib.hid hzm
        subst hp
        clear hzm
        go_wp2_with fail
        go_roundw
        case rel =>
          refine ⟨j + 1, by simp, hlt, fun i hi => ?_, by first | rfl | trivial⟩
          by_cases hij : i = j
          · rw [hij, ← HZ.out]; exact HZm.out
          · exact HLo.out i (by omega)
        case measure => simp [intOf]; omega
      · have e2 : decide (z < m) = false := decide_eq_false hzm
        have HK : Hid (insK zs m = j) := Lib.hid (insK_is hj HLo.out (fun _ => by rw [← HZ.out]; exact hzm))
        subst hp
        clear hzm
        go_wp2_with fail
        clear d1 e1 e2 hji
        obtain ⟨p, hp⟩ : ∃ p, p = some (⟨b, o, none⟩ : Addr) := ⟨_, rfl⟩
        rw [← hp] at HS HSl HRd H Hc HA ⊢
        clear hp hb
        have HL1 : Hid (j ≤ zs.length) := Lib.hid hj
        have hjc : j ≤ cap := by omega
        obtain ⟨u6, hu6⟩ : ∃ u, u = Go.sliced p 0 j cap 1 := ⟨_, rfl⟩
        obtain ⟨u14, hu14⟩ : ∃ u, u = Go.sliced p j zs.length cap 1 := ⟨_, rfl⟩
        have hs6 := (HSl 0 j (by omega)).out
        rw [Nat.zero_add, List.drop_zero, ← hu6] at hs6
        have hs14 := (HSl j (zs.length - j) (by omega)).out
        rw [Nat.add_sub_cancel' hj, List.take_of_length_le (by rw [List.length_drop]; omega), ← hu14] at hs14
        have S6 := Lib.hid hs6
        have S14 := Lib.hid hs14
        have HIns : Hid (zs.take j ++ [m] ++ zs.drop j = insS zs m) := Lib.hid (by unfold insS; rw [HK.out]; simp)
        clear hs6 hs14 HSl c0 c1
        refine region_till (fun x => x.cell? ⟨w.heap.size, 0, none⟩ = some (.int .i64 e) ∧ x.cell? ⟨w.heap.size, 1, none⟩ = some (.slice p zs.length cap)) 17 (by kernel_rfl) ?_
        obtain ⟨wd, hwd⟩ : ∃ x, x = wr.drew := ⟨_, rfl⟩
        have HB : Hid (Below wr.heap.size wr wd) := Lib.hid (by rw [hwd]; exact (Below.refl _ _).drew)
        have d0 := HS.out _ HB.out
        rw [← hwd]
        clear hwd
        apply Till.take (i := 0) [0, 1, 16, 17]
        · simp only [List.getElem?_toArray, List.getElem?_cons_zero]
          rfl
        · kernel_rfl
        · kernel_rfl
        · kernel_rfl
        · kernel_rfl
        · exact fun _ _ _ h => h
        · first
            | exact Or.inr ⟨by rfl, rfl⟩
            | (refine Or.inl ⟨by rfl, fun wq hwq => ?_⟩
               dsimp only at hwq
               go_simp
               first
                 | done
                 | rfl)
        · exact d0
        simp only [Act.put, List.setIfInBounds_toArray, List.set_cons_zero, List.set_cons_succ]
        apply Till.take (i := 1) [1, 16, 17]
        · simp only [List.getElem?_toArray, List.getElem?_cons_succ, List.getElem?_cons_zero]
          rfl
        · kernel_rfl
        · kernel_rfl
        · kernel_rfl
        · kernel_rfl
        · exact fun _ _ _ h => h
        · first
            | exact Or.inr ⟨by rfl, rfl⟩
            | (refine Or.inl ⟨by rfl, fun wq hwq => ?_⟩
               dsimp only at hwq
               go_simp
               first
                 | done
                 | rfl)
        · exact d0
        simp only [Act.put, List.setIfInBounds_toArray, List.set_cons_zero, List.set_cons_succ]
        apply Till.take (i := 3) [3, 4, 6, 7, 10, 15, 16, 17]
        · simp only [List.getElem?_toArray, List.getElem?_cons_succ, List.getElem?_cons_zero]
          rfl
        · kernel_rfl
        · kernel_rfl
        · kernel_rfl
        · kernel_rfl
        · exact fun _ _ _ h => h
        · first
            | exact Or.inr ⟨by rfl, rfl⟩
            | (refine Or.inl ⟨by rfl, fun wq hwq => ?_⟩
               dsimp only at hwq
               go_simp
               first
                 | done
                 | rfl)
        · exact d0
        simp only [Act.put, List.setIfInBounds_toArray, List.set_cons_zero, List.set_cons_succ]
        apply Till.take (i := 4) [4, 6, 7, 10, 15, 16, 17]
        · simp only [List.getElem?_toArray, List.getElem?_cons_succ, List.getElem?_cons_zero]
          rfl
        · kernel_rfl
        · kernel_rfl
        · kernel_rfl
        · kernel_rfl
        · exact fun _ _ _ h => h
        · first
            | exact Or.inr ⟨by rfl, rfl⟩
            | (refine Or.inl ⟨by rfl, fun wq hwq => ?_⟩
               dsimp only at hwq
               go_simp
               first
                 | done
                 | rfl)
        · exact d0
        simp only [Act.put, List.setIfInBounds_toArray, List.set_cons_zero, List.set_cons_succ]
        apply Till.take (i := 5) [5, 6, 7, 10, 15, 16, 17]
        · simp only [List.getElem?_toArray, List.getElem?_cons_succ, List.getElem?_cons_zero]
          rfl
        · kernel_rfl
        · kernel_rfl
        · kernel_rfl
        · kernel_rfl
        · exact fun _ _ _ h => h
        · first
            | exact Or.inr ⟨by rfl, rfl⟩
            | (refine Or.inl ⟨by rfl, fun wq hwq => ?_⟩
               dsimp only at hwq
               go_simp
               first
                 | done
                 | rfl)
        · exact d0
        simp only [Act.put, List.setIfInBounds_toArray, List.set_cons_zero, List.set_cons_succ]
        apply Till.take (i := 6) (v := Go.sliced p 0 j cap 1) [6, 7, 10, 15, 16, 17]
        · simp only [List.getElem?_toArray, List.getElem?_cons_succ, List.getElem?_cons_zero]
          rfl
        · kernel_rfl
        · kernel_rfl
        · kernel_rfl
        · kernel_rfl
        · exact fun _ _ _ h => h
        · refine Or.inl ⟨by rfl, fun _ _ => ?_⟩
          exact run_slice_op_h _ 24 _ 3 i0 Try.underlying24 Hhi.out hz1 (n := j) _ rfl rfl rfl hjc
        · exact d0
        simp only [Act.put, List.setIfInBounds_toArray, List.set_cons_zero, List.set_cons_succ]
        rw [← hu6]
        apply Till.take (i := 8) [8, 9, 10, 15, 16, 17]
        · simp only [List.getElem?_toArray, List.getElem?_cons_succ, List.getElem?_cons_zero]
          rfl
        · kernel_rfl
        · kernel_rfl
        · kernel_rfl
        · kernel_rfl
        · exact fun _ _ _ h => h
        · first
            | exact Or.inr ⟨by rfl, rfl⟩
            | (refine Or.inl ⟨by rfl, fun wq hwq => ?_⟩
               dsimp only at hwq
               go_simp
               first
                 | done
                 | rfl)
        · exact d0
        simp only [Act.put, List.setIfInBounds_toArray, List.set_cons_zero, List.set_cons_succ]
        apply Till.take (i := 11) [11, 12, 14, 15, 16, 17]
        · simp only [List.getElem?_toArray, List.getElem?_cons_succ, List.getElem?_cons_zero]
          rfl
        · kernel_rfl
        · kernel_rfl
        · kernel_rfl
        · kernel_rfl
        · exact fun _ _ _ h => h
        · first
            | exact Or.inr ⟨by rfl, rfl⟩
            | (refine Or.inl ⟨by rfl, fun wq hwq => ?_⟩
               dsimp only at hwq
               go_simp
               first
                 | done
                 | rfl)
        · exact d0
        simp only [Act.put, List.setIfInBounds_toArray, List.set_cons_zero, List.set_cons_succ]
        apply Till.take (i := 12) [12, 14, 15, 16, 17]
        · simp only [List.getElem?_toArray, List.getElem?_cons_succ, List.getElem?_cons_zero]
          rfl
        · kernel_rfl
        · kernel_rfl
        · kernel_rfl
        · kernel_rfl
        · exact fun _ _ _ h => h
        · first
            | exact Or.inr ⟨by rfl, rfl⟩
            | (refine Or.inl ⟨by rfl, fun wq hwq => ?_⟩
               dsimp only at hwq
               go_simp
               first
                 | done
                 | rfl)
        · exact d0
        simp only [Act.put, List.setIfInBounds_toArray, List.set_cons_zero, List.set_cons_succ]
        apply Till.take (i := 13) [13, 14, 15, 16, 17]
        · simp only [List.getElem?_toArray, List.getElem?_cons_succ, List.getElem?_cons_zero]
          rfl
        · kernel_rfl
        · kernel_rfl
        · kernel_rfl
        · kernel_rfl
        · exact fun _ _ _ h => h
        · first
            | exact Or.inr ⟨by rfl, rfl⟩
            | (refine Or.inl ⟨by rfl, fun wq hwq => ?_⟩
               dsimp only at hwq
               go_simp
               first
                 | done
                 | rfl)
        · exact d0
        simp only [Act.put, List.setIfInBounds_toArray, List.set_cons_zero, List.set_cons_succ]
        apply Till.take (i := 14) (v := Go.sliced p j zs.length cap 1) [14, 15, 16, 17]
        · simp only [List.getElem?_toArray, List.getElem?_cons_succ, List.getElem?_cons_zero]
          rfl
        · kernel_rfl
        · kernel_rfl
        · kernel_rfl
        · kernel_rfl
        · exact fun _ _ _ h => h
        · refine Or.inl ⟨by rfl, fun _ _ => ?_⟩
          exact run_slice_op_l _ 24 _ 3 i0 Try.underlying24 Hhi.out hz1 (n := j) _ rfl rfl rfl hj
        · exact d0
        simp only [Act.put, List.setIfInBounds_toArray, List.set_cons_zero, List.set_cons_succ]
        rw [← hu14]
        clear hu6 hu14 hjc
        apply Till.two (i := 2) (j := 9)
        · kernel_rfl
        · simp only [List.getElem?_toArray, List.getElem?_cons_succ, List.getElem?_cons_zero]
          rfl
        · simp only [List.getElem?_toArray, List.getElem?_cons_succ, List.getElem?_cons_zero]
          rfl
        · intro K0 hK
          go_simp
          have hB := HB.out.alloc HB.out.size (.cells #[] 3)
          have d1 := HS.out _ hB
          have HO1 := Lib.hid (Own.lit (w := wd) (B := wr.heap.size) 3 .i64 HB.out.size)
          replace HB := Lib.hid hB
          clear hB d0
          have d0 := d1
          clear d1
          have HSz : Hid (wd.heap.size < (wd.alloc (.cells #[] 3)).heap.size) := Lib.hid (by rw [World.size_alloc]; omega)
          refine hK.out _ _ (Or.inr d0) ?_
          clear hK K0
          try simp only [Act.put, List.setIfInBounds_toArray, List.set_cons_zero, List.set_cons_succ]
          obtain ⟨w2, hw2⟩ : ∃ x, x = wd.alloc (.cells #[] 3) := ⟨_, rfl⟩
          rw [← hw2] at HB d0 HO1 HSz ⊢
          clear hw2
          apply Till.two (i := 7) (j := 9)
          · kernel_rfl
          · simp only [List.getElem?_toArray, List.getElem?_cons_succ, List.getElem?_cons_zero]
            rfl
          · simp only [List.getElem?_toArray, List.getElem?_cons_succ, List.getElem?_cons_zero]
            rfl
          · intro K0 hK
            refine step_append_rds _ (by rfl) _ _ 24 (by rfl) 3 i0 (.int .i64 0) 8 Try.underlying24 Hhi.out hz0 hz1 hz2 rfl (by omega) (by rfl) HO1.out (by rfl) (S6.out.behind (HB.out.mono HLm.out)) (by have := HN.out; have := HL1.out; simp only [List.length_nil, List.length_take]; omega) ?_
            intro v7 w7 hO hg
            have hB := HB.out.trans ((HO1.out).below (Nat.le_refl _) hg)
            have d1 := HS.out _ hB
            replace HB := Lib.hid hB
            have HO7 := Lib.hid (show Own 3 .i64 wr.heap.size w7 v7 (zs.take j) from hO)
            clear hO hg hB d0
            have d0 := d1
            clear d1
            refine hK.out _ _ (Or.inr d0) ?_
            clear hK K0
            try simp only [Act.put, List.setIfInBounds_toArray, List.set_cons_zero, List.set_cons_succ]
            apply Till.one (i := 9)
            · kernel_rfl
            · simp only [List.getElem?_toArray, List.getElem?_cons_succ, List.getElem?_cons_zero]
              rfl
            intro K hK
            go_simp
            have hB := HB.out.alloc HB.out.size (.cells #[.int .i64 m] 3)
            have d1 := HS.out _ hB
            have HR1 := Lib.hid (Own.one (w := w7) (B := wr.heap.size) 3 .i64 HB.out.size HMw.out)
            have HO7b := Lib.hid (HO7.out.alloc (.cells #[.int .i64 m] 3))
            replace HB := Lib.hid hB
            clear hB d0
            have d0 := d1
            clear d1
            refine hK.out _ _ (Or.inr d0) ?_
            clear hK K
            try simp only [Act.put, List.setIfInBounds_toArray, List.set_cons_zero, List.set_cons_succ]
            obtain ⟨w9, hw9⟩ : ∃ x, x = w7.alloc (.cells #[.int .i64 m] 3) := ⟨_, rfl⟩
            rw [← hw9] at HB d0 HR1 HO7b ⊢
            clear hw9
            apply Till.one (i := 10)
            · kernel_rfl
            · simp only [List.getElem?_toArray, List.getElem?_cons_succ, List.getElem?_cons_zero]
              rfl
            intro K hK
            refine step_append_rds _ (by rfl) _ _ 24 (by rfl) 3 i0 (.int .i64 0) 8 Try.underlying24 Hhi.out hz0 hz1 hz2 rfl (by omega) (by rfl) HO7b.out (by rfl) HR1.out.rd (by have := HN.out; have := HL1.out; simp only [List.length_cons, List.length_nil, List.length_take]; omega) ?_
            intro v10 w10 hO hg
            have hB := HB.out.trans ((HO7b.out).below (Nat.le_refl _) hg)
            have d1 := HS.out _ hB
            replace HB := Lib.hid hB
            have HO10 := Lib.hid (show Own 3 .i64 wr.heap.size w10 v10 (zs.take j ++ [m]) from hO)
            clear hO hg hB d0
            have d0 := d1
            clear d1
            refine hK.out _ _ (Or.inr d0) ?_
            clear hK K
            try simp only [Act.put, List.setIfInBounds_toArray, List.set_cons_zero, List.set_cons_succ]
            apply Till.one (i := 15)
            · kernel_rfl
            · simp only [List.getElem?_toArray, List.getElem?_cons_succ, List.getElem?_cons_zero]
              rfl
            intro K hK
            refine step_append_rds _ (by rfl) _ _ 24 (by rfl) 3 i0 (.int .i64 0) 8 Try.underlying24 Hhi.out hz0 hz1 hz2 rfl (by omega) (by rfl) HO10.out (by rfl) (S14.out.behind (HB.out.mono HLm.out)) (by have := HN.out; have := HL1.out; simp only [List.length_cons, List.length_nil, List.length_append, List.length_take, List.length_drop]; omega) ?_
            intro v15 w15 hO hg
            have hB := HB.out.trans ((HO10.out).below (Nat.le_refl _) hg)
            have d1 := HS.out _ hB
            replace HB := Lib.hid hB
            have HO0 := Lib.hid (show Own 3 .i64 wr.heap.size w15 v15 (zs.take j ++ [m] ++ zs.drop j) from hO)
            clear hO hg hB d0
            have d0 := d1
            clear d1
            rw [HIns.out] at HO0
            obtain ⟨a3, c3, hv, _⟩ := HO0.out.open
            subst hv
            obtain ⟨nl, hnl⟩ : ∃ x, x = (insS zs m).length := ⟨_, rfl⟩
            have HO : Hid (Own 3 .i64 wr.heap.size w15 (.slice a3 nl c3) (insS zs m)) := Lib.hid (by rw [hnl]; exact HO0.out)
            rw [← hnl]
            clear HO0 hnl
            refine hK.out _ _ (Or.inr d0) ?_
            clear hK K
            try simp only [Act.put, List.setIfInBounds_toArray, List.set_cons_zero, List.set_cons_succ]
            apply Till.take (i := 16) [16, 17]
            · simp only [List.getElem?_toArray, List.getElem?_cons_succ, List.getElem?_cons_zero]
              rfl
            · kernel_rfl
            · kernel_rfl
            · kernel_rfl
            · kernel_rfl
            · exact fun _ _ _ h => h
            · first
                | exact Or.inr ⟨by rfl, rfl⟩
                | (refine Or.inl ⟨by rfl, fun wq hwq => ?_⟩
                   dsimp only at hwq
                   go_simp
                   first
                     | done
                     | rfl)
            · exact d0
            simp only [Act.put, List.setIfInBounds_toArray, List.set_cons_zero, List.set_cons_succ]
            have hCc := (HB.out.block _ HLt.out).trans HC.out
            obtain ⟨q0, q1, f0, f1⟩ := scs hCc
            obtain ⟨k9, g9⟩ := sst hCc (.int .i64 e) (.slice a3 nl c3)
            obtain ⟨r0, r1, _⟩ := scs k9
            have hB9 := (HB0.out.trans (HB.out.mono HB0.out.size)).grown g9 (HB0.out.trans (HB.out.mono HB0.out.size)).size (fun k hk => by injection hk with hk; omega)
            have hO9 := HO.out.kept g9 (Or.inr (fun hh => by have := (HO.out.lt _ hh).1; have := HLt.out; omega))
            have HB9 := Lib.hid hB9
            have HO9 := Lib.hid (hO9.mono HB0.out.size)
            clear k9 g9 hCc hB9 hO9
            apply Till.one (i := 17)
            · kernel_rfl
            · simp only [List.getElem?_toArray, List.getElem?_cons_succ, List.getElem?_cons_zero]
              rfl
            intro K hK
            go_simp
            skip
            refine hK.out _ _ (Or.inl (by rfl)) ?_
            clear hK K
            try simp only [Act.put, List.setIfInBounds_toArray, List.set_cons_zero, List.set_cons_succ]
            refine Till.done (by kernel_rfl) ?_ _
            go_wp2_with fail
            exact bodyPost_ret (v := .agg #[.int .i64 e, .slice a3 nl c3]) (by simp [results, Try.results55, go_sem, r0, r1]) rfl ⟨_, rfl, HO9.out, HB9.out⟩
          · intro K0 hK
            go_simp
            have hB := HB.out.alloc HB.out.size (.cells #[.int .i64 m] 3)
            have d1 := HS.out _ hB
            have HR1 := Lib.hid (Own.one (w := w2) (B := wr.heap.size) 3 .i64 HB.out.size HMw.out)
            have HO1b := Lib.hid (HO1.out.alloc (.cells #[.int .i64 m] 3))
            replace HB := Lib.hid hB
            clear hB d0
            have d0 := d1
            clear d1
            refine hK.out _ _ (Or.inr d0) ?_
            clear hK K0
            try simp only [Act.put, List.setIfInBounds_toArray, List.set_cons_zero, List.set_cons_succ]
            have HAp : Hid (Apart (.slice (some ⟨w2.heap.size, 0, none⟩) 1 1) (.slice (some ⟨wd.heap.size, 0, none⟩) 0 0)) := Lib.hid (fun r h1 h2 => by simp only [Value.ownBlock, Option.some.injEq] at h1 h2; have := HSz.out; omega)
            obtain ⟨w9, hw9⟩ : ∃ x, x = w2.alloc (.cells #[.int .i64 m] 3) := ⟨_, rfl⟩
            rw [← hw9] at HB d0 HR1 HO1b ⊢
            clear hw9
            apply Till.one (i := 7)
            · kernel_rfl
            · simp only [List.getElem?_toArray, List.getElem?_cons_succ, List.getElem?_cons_zero]
              rfl
            intro K hK
            refine step_append_rds _ (by rfl) _ _ 24 (by rfl) 3 i0 (.int .i64 0) 8 Try.underlying24 Hhi.out hz0 hz1 hz2 rfl (by omega) (by rfl) HO1b.out (by rfl) (S6.out.behind (HB.out.mono HLm.out)) (by have := HN.out; have := HL1.out; simp only [List.length_nil, List.length_take]; omega) ?_
            intro v7 w7 hO hg
            have hB := HB.out.trans ((HO1b.out).below (Nat.le_refl _) hg)
            have d1 := HS.out _ hB
            replace HB := Lib.hid hB
            have HR2 := Lib.hid (HR1.out.beside HAp.out hg)
            have HO7 := Lib.hid (show Own 3 .i64 wr.heap.size w7 v7 (zs.take j) from hO)
            clear hO hg hB d0
            have d0 := d1
            clear d1
            refine hK.out _ _ (Or.inr d0) ?_
            clear hK K
            try simp only [Act.put, List.setIfInBounds_toArray, List.set_cons_zero, List.set_cons_succ]
            apply Till.one (i := 10)
            · kernel_rfl
            · simp only [List.getElem?_toArray, List.getElem?_cons_succ, List.getElem?_cons_zero]
              rfl
            intro K hK
            refine step_append_rds _ (by rfl) _ _ 24 (by rfl) 3 i0 (.int .i64 0) 8 Try.underlying24 Hhi.out hz0 hz1 hz2 rfl (by omega) (by rfl) HO7.out (by rfl) HR2.out.rd (by have := HN.out; have := HL1.out; simp only [List.length_cons, List.length_nil, List.length_take]; omega) ?_
            intro v10 w10 hO hg
            have hB := HB.out.trans ((HO7.out).below (Nat.le_refl _) hg)
            have d1 := HS.out _ hB
            replace HB := Lib.hid hB
            have HO10 := Lib.hid (show Own 3 .i64 wr.heap.size w10 v10 (zs.take j ++ [m]) from hO)
            clear hO hg hB d0
            have d0 := d1
            clear d1
            refine hK.out _ _ (Or.inr d0) ?_
            clear hK K
            try simp only [Act.put, List.setIfInBounds_toArray, List.set_cons_zero, List.set_cons_succ]
            apply Till.one (i := 15)
            · kernel_rfl
            · simp only [List.getElem?_toArray, List.getElem?_cons_succ, List.getElem?_cons_zero]
              rfl
            intro K hK
            refine step_append_rds _ (by rfl) _ _ 24 (by rfl) 3 i0 (.int .i64 0) 8 Try.underlying24 Hhi.out hz0 hz1 hz2 rfl (by omega) (by rfl) HO10.out (by rfl) (S14.out.behind (HB.out.mono HLm.out)) (by have := HN.out; have := HL1.out; simp only [List.length_cons, List.length_nil, List.length_append, List.length_take, List.length_drop]; omega) ?_
            intro v15 w15 hO hg
            have hB := HB.out.trans ((HO10.out).below (Nat.le_refl _) hg)
            have d1 := HS.out _ hB
            replace HB := Lib.hid hB
            have HO0 := Lib.hid (show Own 3 .i64 wr.heap.size w15 v15 (zs.take j ++ [m] ++ zs.drop j) from hO)
            clear hO hg hB d0
            have d0 := d1
            clear d1
            rw [HIns.out] at HO0
            obtain ⟨a3, c3, hv, _⟩ := HO0.out.open
            subst hv
            obtain ⟨nl, hnl⟩ : ∃ x, x = (insS zs m).length := ⟨_, rfl⟩
            have HO : Hid (Own 3 .i64 wr.heap.size w15 (.slice a3 nl c3) (insS zs m)) := Lib.hid (by rw [hnl]; exact HO0.out)
            rw [← hnl]
            clear HO0 hnl
            refine hK.out _ _ (Or.inr d0) ?_
            clear hK K
            try simp only [Act.put, List.setIfInBounds_toArray, List.set_cons_zero, List.set_cons_succ]
            apply Till.take (i := 16) [16, 17]
            · simp only [List.getElem?_toArray, List.getElem?_cons_succ, List.getElem?_cons_zero]
              rfl
            · kernel_rfl
            · kernel_rfl
            · kernel_rfl
            · kernel_rfl
            · exact fun _ _ _ h => h
            · first
                | exact Or.inr ⟨by rfl, rfl⟩
                | (refine Or.inl ⟨by rfl, fun wq hwq => ?_⟩
                   dsimp only at hwq
                   go_simp
                   first
                     | done
                     | rfl)
            · exact d0
            simp only [Act.put, List.setIfInBounds_toArray, List.set_cons_zero, List.set_cons_succ]
            have hCc := (HB.out.block _ HLt.out).trans HC.out
            obtain ⟨q0, q1, f0, f1⟩ := scs hCc
            obtain ⟨k9, g9⟩ := sst hCc (.int .i64 e) (.slice a3 nl c3)
            obtain ⟨r0, r1, _⟩ := scs k9
            have hB9 := (HB0.out.trans (HB.out.mono HB0.out.size)).grown g9 (HB0.out.trans (HB.out.mono HB0.out.size)).size (fun k hk => by injection hk with hk; omega)
            have hO9 := HO.out.kept g9 (Or.inr (fun hh => by have := (HO.out.lt _ hh).1; have := HLt.out; omega))
            have HB9 := Lib.hid hB9
            have HO9 := Lib.hid (hO9.mono HB0.out.size)
            clear k9 g9 hCc hB9 hO9
            apply Till.one (i := 17)
            · kernel_rfl
            · simp only [List.getElem?_toArray, List.getElem?_cons_succ, List.getElem?_cons_zero]
              rfl
            intro K hK
            go_simp
            skip
            refine hK.out _ _ (Or.inl (by rfl)) ?_
            clear hK K
            try simp only [Act.put, List.setIfInBounds_toArray, List.set_cons_zero, List.set_cons_succ]
            refine Till.done (by kernel_rfl) ?_ _
            go_wp2_with fail
            exact bodyPost_ret (v := .agg #[.int .i64 e, .slice a3 nl c3]) (by simp [results, Try.results55, go_sem, r0, r1]) rfl ⟨_, rfl, HO9.out, HB9.out⟩
        · intro K0 hK
          go_simp
          have hB := HB.out.alloc HB.out.size (.cells #[.int .i64 m] 3)
          have d1 := HS.out _ hB
          have HR1 := Lib.hid (Own.one (w := wd) (B := wr.heap.size) 3 .i64 HB.out.size HMw.out)
          replace HB := Lib.hid hB
          clear hB d0
          have d0 := d1
          clear d1
          have HSz : Hid (wd.heap.size < (wd.alloc (.cells #[.int .i64 m] 3)).heap.size) := Lib.hid (by rw [World.size_alloc]; omega)
          refine hK.out _ _ (Or.inr d0) ?_
          clear hK K0
          try simp only [Act.put, List.setIfInBounds_toArray, List.set_cons_zero, List.set_cons_succ]
          obtain ⟨w9, hw9⟩ : ∃ x, x = wd.alloc (.cells #[.int .i64 m] 3) := ⟨_, rfl⟩
          rw [← hw9] at HB d0 HR1 HSz ⊢
          clear hw9
          apply Till.one (i := 2)
          · kernel_rfl
          · simp only [List.getElem?_toArray, List.getElem?_cons_succ, List.getElem?_cons_zero]
            rfl
          intro K hK
          go_simp
          have hB := HB.out.alloc HB.out.size (.cells #[] 3)
          have d1 := HS.out _ hB
          have HO1 := Lib.hid (Own.lit (w := w9) (B := wr.heap.size) 3 .i64 HB.out.size)
          have HR1b := Lib.hid (HR1.out.next ((Below.refl _ _).alloc (Nat.le_refl _) (.cells #[] 3)))
          replace HB := Lib.hid hB
          clear hB d0
          have d0 := d1
          clear d1
          refine hK.out _ _ (Or.inr d0) ?_
          clear hK K
          try simp only [Act.put, List.setIfInBounds_toArray, List.set_cons_zero, List.set_cons_succ]
          have HAp : Hid (Apart (.slice (some ⟨wd.heap.size, 0, none⟩) 1 1) (.slice (some ⟨w9.heap.size, 0, none⟩) 0 0)) := Lib.hid (fun r h1 h2 => by simp only [Value.ownBlock, Option.some.injEq] at h1 h2; have := HSz.out; omega)
          obtain ⟨w2, hw2⟩ : ∃ x, x = w9.alloc (.cells #[] 3) := ⟨_, rfl⟩
          rw [← hw2] at HB d0 HO1 HR1b ⊢
          clear hw2
          clear HR1
          have HR1 := HR1b
          clear HR1b
          apply Till.one (i := 7)
          · kernel_rfl
          · simp only [List.getElem?_toArray, List.getElem?_cons_succ, List.getElem?_cons_zero]
            rfl
          intro K hK
          refine step_append_rds _ (by rfl) _ _ 24 (by rfl) 3 i0 (.int .i64 0) 8 Try.underlying24 Hhi.out hz0 hz1 hz2 rfl (by omega) (by rfl) HO1.out (by rfl) (S6.out.behind (HB.out.mono HLm.out)) (by have := HN.out; have := HL1.out; simp only [List.length_nil, List.length_take]; omega) ?_
          intro v7 w7 hO hg
          have hB := HB.out.trans ((HO1.out).below (Nat.le_refl _) hg)
          have d1 := HS.out _ hB
          replace HB := Lib.hid hB
          have HR2 := Lib.hid (HR1.out.beside HAp.out hg)
          have HO7 := Lib.hid (show Own 3 .i64 wr.heap.size w7 v7 (zs.take j) from hO)
          clear hO hg hB d0
          have d0 := d1
          clear d1
          refine hK.out _ _ (Or.inr d0) ?_
          clear hK K
          try simp only [Act.put, List.setIfInBounds_toArray, List.set_cons_zero, List.set_cons_succ]
          apply Till.one (i := 10)
          · kernel_rfl
          · simp only [List.getElem?_toArray, List.getElem?_cons_succ, List.getElem?_cons_zero]
            rfl
          intro K hK
          refine step_append_rds _ (by rfl) _ _ 24 (by rfl) 3 i0 (.int .i64 0) 8 Try.underlying24 Hhi.out hz0 hz1 hz2 rfl (by omega) (by rfl) HO7.out (by rfl) HR2.out.rd (by have := HN.out; have := HL1.out; simp only [List.length_cons, List.length_nil, List.length_take]; omega) ?_
          intro v10 w10 hO hg
          have hB := HB.out.trans ((HO7.out).below (Nat.le_refl _) hg)
          have d1 := HS.out _ hB
          replace HB := Lib.hid hB
          have HO10 := Lib.hid (show Own 3 .i64 wr.heap.size w10 v10 (zs.take j ++ [m]) from hO)
          clear hO hg hB d0
          have d0 := d1
          clear d1
          refine hK.out _ _ (Or.inr d0) ?_
          clear hK K
          try simp only [Act.put, List.setIfInBounds_toArray, List.set_cons_zero, List.set_cons_succ]
          apply Till.one (i := 15)
          · kernel_rfl
          · simp only [List.getElem?_toArray, List.getElem?_cons_succ, List.getElem?_cons_zero]
            rfl
          intro K hK
          refine step_append_rds _ (by rfl) _ _ 24 (by rfl) 3 i0 (.int .i64 0) 8 Try.underlying24 Hhi.out hz0 hz1 hz2 rfl (by omega) (by rfl) HO10.out (by rfl) (S14.out.behind (HB.out.mono HLm.out)) (by have := HN.out; have := HL1.out; simp only [List.length_cons, List.length_nil, List.length_append, List.length_take, List.length_drop]; omega) ?_
          intro v15 w15 hO hg
          have hB := HB.out.trans ((HO10.out).below (Nat.le_refl _) hg)
          have d1 := HS.out _ hB
          replace HB := Lib.hid hB
          have HO0 := Lib.hid (show Own 3 .i64 wr.heap.size w15 v15 (zs.take j ++ [m] ++ zs.drop j) from hO)
          clear hO hg hB d0
          have d0 := d1
          clear d1
          rw [HIns.out] at HO0
          obtain ⟨a3, c3, hv, _⟩ := HO0.out.open
          subst hv
          obtain ⟨nl, hnl⟩ : ∃ x, x = (insS zs m).length := ⟨_, rfl⟩
          have HO : Hid (Own 3 .i64 wr.heap.size w15 (.slice a3 nl c3) (insS zs m)) := Lib.hid (by rw [hnl]; exact HO0.out)
          rw [← hnl]
          clear HO0 hnl
          refine hK.out _ _ (Or.inr d0) ?_
          clear hK K
          try simp only [Act.put, List.setIfInBounds_toArray, List.set_cons_zero, List.set_cons_succ]
          apply Till.take (i := 16) [16, 17]
          · simp only [List.getElem?_toArray, List.getElem?_cons_succ, List.getElem?_cons_zero]
            rfl
          · kernel_rfl
          · kernel_rfl
          · kernel_rfl
          · kernel_rfl
          · exact fun _ _ _ h => h
          · first
              | exact Or.inr ⟨by rfl, rfl⟩
              | (refine Or.inl ⟨by rfl, fun wq hwq => ?_⟩
                 dsimp only at hwq
                 go_simp
                 first
                   | done
                   | rfl)
          · exact d0
          simp only [Act.put, List.setIfInBounds_toArray, List.set_cons_zero, List.set_cons_succ]
          have hCc := (HB.out.block _ HLt.out).trans HC.out
          obtain ⟨q0, q1, f0, f1⟩ := scs hCc
          obtain ⟨k9, g9⟩ := sst hCc (.int .i64 e) (.slice a3 nl c3)
          obtain ⟨r0, r1, _⟩ := scs k9
          have hB9 := (HB0.out.trans (HB.out.mono HB0.out.size)).grown g9 (HB0.out.trans (HB.out.mono HB0.out.size)).size (fun k hk => by injection hk with hk; omega)
          have hO9 := HO.out.kept g9 (Or.inr (fun hh => by have := (HO.out.lt _ hh).1; have := HLt.out; omega))
          have HB9 := Lib.hid hB9
          have HO9 := Lib.hid (hO9.mono HB0.out.size)
          clear k9 g9 hCc hB9 hO9
          apply Till.one (i := 17)
          · kernel_rfl
          · simp only [List.getElem?_toArray, List.getElem?_cons_succ, List.getElem?_cons_zero]
            rfl
          intro K hK
          go_simp
          skip
          refine hK.out _ _ (Or.inl (by rfl)) ?_
          clear hK K
          try simp only [Act.put, List.setIfInBounds_toArray, List.set_cons_zero, List.set_cons_succ]
          refine Till.done (by kernel_rfl) ?_ _
          go_wp2_with fail
          exact bodyPost_ret (v := .agg #[.int .i64 e, .slice a3 nl c3]) (by simp [results, Try.results55, go_sem, r0, r1]) rfl ⟨_, rfl, HO9.out, HB9.out⟩
    case neg =>
      have e1 : decide ((j : Int) < (zs.length : Int)) = false := by simp; omega
      have HK : Hid (insK zs m = j) := Lib.hid (insK_is hj HLo.out (fun h => absurd h hlt))
      go_wp2_with fail
      clear e1
      have HL1 : Hid (j ≤ zs.length) := Lib.hid hj
      have hjc : j ≤ cap := by omega
      obtain ⟨u6, hu6⟩ : ∃ u, u = Go.sliced p 0 j cap 1 := ⟨_, rfl⟩
      obtain ⟨u14, hu14⟩ : ∃ u, u = Go.sliced p j zs.length cap 1 := ⟨_, rfl⟩
      have hs6 := (HSl 0 j (by omega)).out
      rw [Nat.zero_add, List.drop_zero, ← hu6] at hs6
      have hs14 := (HSl j (zs.length - j) (by omega)).out
      rw [Nat.add_sub_cancel' hj, List.take_of_length_le (by rw [List.length_drop]; omega), ← hu14] at hs14
      have S6 := Lib.hid hs6
      have S14 := Lib.hid hs14
      have HIns : Hid (zs.take j ++ [m] ++ zs.drop j = insS zs m) := Lib.hid (by unfold insS; rw [HK.out]; simp)
      clear hs6 hs14 HSl c0 c1
      refine region_till (fun x => x.cell? ⟨w.heap.size, 0, none⟩ = some (.int .i64 e) ∧ x.cell? ⟨w.heap.size, 1, none⟩ = some (.slice p zs.length cap)) 17 (by kernel_rfl) ?_
      obtain ⟨wd, hwd⟩ : ∃ x, x = wr.drew := ⟨_, rfl⟩
      have HB : Hid (Below wr.heap.size wr wd) := Lib.hid (by rw [hwd]; exact (Below.refl _ _).drew)
      have d0 := HS.out _ HB.out
      rw [← hwd]
      clear hwd
      apply Till.take (i := 0) [0, 1, 16, 17]
      · simp only [List.getElem?_toArray, List.getElem?_cons_zero]
        rfl
      · kernel_rfl
      · kernel_rfl
      · kernel_rfl
      · kernel_rfl
      · exact fun _ _ _ h => h
      · first
          | exact Or.inr ⟨by rfl, rfl⟩
          | (refine Or.inl ⟨by rfl, fun wq hwq => ?_⟩
             dsimp only at hwq
             go_simp
             first
               | done
               | rfl)
      · exact d0
      simp only [Act.put, List.setIfInBounds_toArray, List.set_cons_zero, List.set_cons_succ]
      apply Till.take (i := 1) [1, 16, 17]
      · simp only [List.getElem?_toArray, List.getElem?_cons_succ, List.getElem?_cons_zero]
        rfl
      · kernel_rfl
      · kernel_rfl
      · kernel_rfl
      · kernel_rfl
      · exact fun _ _ _ h => h
      · first
          | exact Or.inr ⟨by rfl, rfl⟩
          | (refine Or.inl ⟨by rfl, fun wq hwq => ?_⟩
             dsimp only at hwq
             go_simp
             first
               | done
               | rfl)
      · exact d0
      simp only [Act.put, List.setIfInBounds_toArray, List.set_cons_zero, List.set_cons_succ]
      apply Till.take (i := 3) [3, 4, 6, 7, 10, 15, 16, 17]
      · simp only [List.getElem?_toArray, List.getElem?_cons_succ, List.getElem?_cons_zero]
        rfl
      · kernel_rfl
      · kernel_rfl
      · kernel_rfl
      · kernel_rfl
      · exact fun _ _ _ h => h
      · first
          | exact Or.inr ⟨by rfl, rfl⟩
          | (refine Or.inl ⟨by rfl, fun wq hwq => ?_⟩
             dsimp only at hwq
             go_simp
             first
               | done
               | rfl)
      · exact d0
      simp only [Act.put, List.setIfInBounds_toArray, List.set_cons_zero, List.set_cons_succ]
      apply Till.take (i := 4) [4, 6, 7, 10, 15, 16, 17]
      · simp only [List.getElem?_toArray, List.getElem?_cons_succ, List.getElem?_cons_zero]
        rfl
      · kernel_rfl
      · kernel_rfl
      · kernel_rfl
      · kernel_rfl
      · exact fun _ _ _ h => h
      · first
          | exact Or.inr ⟨by rfl, rfl⟩
          | (refine Or.inl ⟨by rfl, fun wq hwq => ?_⟩
             dsimp only at hwq
             go_simp
             first
               | done
               | rfl)
      · exact d0
      simp only [Act.put, List.setIfInBounds_toArray, List.set_cons_zero, List.set_cons_succ]
      apply Till.take (i := 5) [5, 6, 7, 10, 15, 16, 17]
      · simp only [List.getElem?_toArray, List.getElem?_cons_succ, List.getElem?_cons_zero]
        rfl
      · kernel_rfl
      · kernel_rfl
      · kernel_rfl
      · kernel_rfl
      · exact fun _ _ _ h => h
      · first
          | exact Or.inr ⟨by rfl, rfl⟩
          | (refine Or.inl ⟨by rfl, fun wq hwq => ?_⟩
             dsimp only at hwq
             go_simp
             first
               | done
               | rfl)
      · exact d0
      simp only [Act.put, List.setIfInBounds_toArray, List.set_cons_zero, List.set_cons_succ]
      apply Till.take (i := 6) (v := Go.sliced p 0 j cap 1) [6, 7, 10, 15, 16, 17]
      · simp only [List.getElem?_toArray, List.getElem?_cons_succ, List.getElem?_cons_zero]
        rfl
      · kernel_rfl
      · kernel_rfl
      · kernel_rfl
      · kernel_rfl
      · exact fun _ _ _ h => h
      · refine Or.inl ⟨by rfl, fun _ _ => ?_⟩
        exact run_slice_op_h _ 24 _ 3 i0 Try.underlying24 Hhi.out hz1 (n := j) _ rfl rfl rfl hjc
      · exact d0
      simp only [Act.put, List.setIfInBounds_toArray, List.set_cons_zero, List.set_cons_succ]
      rw [← hu6]
      apply Till.take (i := 8) [8, 9, 10, 15, 16, 17]
      · simp only [List.getElem?_toArray, List.getElem?_cons_succ, List.getElem?_cons_zero]
        rfl
      · kernel_rfl
      · kernel_rfl
      · kernel_rfl
      · kernel_rfl
      · exact fun _ _ _ h => h
      · first
          | exact Or.inr ⟨by rfl, rfl⟩
          | (refine Or.inl ⟨by rfl, fun wq hwq => ?_⟩
             dsimp only at hwq
             go_simp
             first
               | done
               | rfl)
      · exact d0
      simp only [Act.put, List.setIfInBounds_toArray, List.set_cons_zero, List.set_cons_succ]
      apply Till.take (i := 11) [11, 12, 14, 15, 16, 17]
      · simp only [List.getElem?_toArray, List.getElem?_cons_succ, List.getElem?_cons_zero]
        rfl
      · kernel_rfl
      · kernel_rfl
      · kernel_rfl
      · kernel_rfl
      · exact fun _ _ _ h => h
      · first
          | exact Or.inr ⟨by rfl, rfl⟩
          | (refine Or.inl ⟨by rfl, fun wq hwq => ?_⟩
             dsimp only at hwq
             go_simp
             first
               | done
               | rfl)
      · exact d0
      simp only [Act.put, List.setIfInBounds_toArray, List.set_cons_zero, List.set_cons_succ]
      apply Till.take (i := 12) [12, 14, 15, 16, 17]
      · simp only [List.getElem?_toArray, List.getElem?_cons_succ, List.getElem?_cons_zero]
        rfl
      · kernel_rfl
      · kernel_rfl
      · kernel_rfl
      · kernel_rfl
      · exact fun _ _ _ h => h
      · first
          | exact Or.inr ⟨by rfl, rfl⟩
          | (refine Or.inl ⟨by rfl, fun wq hwq => ?_⟩
             dsimp only at hwq
             go_simp
             first
               | done
               | rfl)
      · exact d0
      simp only [Act.put, List.setIfInBounds_toArray, List.set_cons_zero, List.set_cons_succ]
      apply Till.take (i := 13) [13, 14, 15, 16, 17]
      · simp only [List.getElem?_toArray, List.getElem?_cons_succ, List.getElem?_cons_zero]
        rfl
      · kernel_rfl
      · kernel_rfl
      · kernel_rfl
      · kernel_rfl
      · exact fun _ _ _ h => h
      · first
          | exact Or.inr ⟨by rfl, rfl⟩
          | (refine Or.inl ⟨by rfl, fun wq hwq => ?_⟩
             dsimp only at hwq
             go_simp
             first
               | done
               | rfl)
      · exact d0
      simp only [Act.put, List.setIfInBounds_toArray, List.set_cons_zero, List.set_cons_succ]
      apply Till.take (i := 14) (v := Go.sliced p j zs.length cap 1) [14, 15, 16, 17]
      · simp only [List.getElem?_toArray, List.getElem?_cons_succ, List.getElem?_cons_zero]
        rfl
      · kernel_rfl
      · kernel_rfl
      · kernel_rfl
      · kernel_rfl
      · exact fun _ _ _ h => h
      · refine Or.inl ⟨by rfl, fun _ _ => ?_⟩
        exact run_slice_op_l _ 24 _ 3 i0 Try.underlying24 Hhi.out hz1 (n := j) _ rfl rfl rfl hj
      · exact d0
      simp only [Act.put, List.setIfInBounds_toArray, List.set_cons_zero, List.set_cons_succ]
      rw [← hu14]
      clear hu6 hu14 hjc
      apply Till.two (i := 2) (j := 9)
      · kernel_rfl
      · simp only [List.getElem?_toArray, List.getElem?_cons_succ, List.getElem?_cons_zero]
        rfl
      · simp only [List.getElem?_toArray, List.getElem?_cons_succ, List.getElem?_cons_zero]
        rfl
      · intro K0 hK
        go_simp
        have hB := HB.out.alloc HB.out.size (.cells #[] 3)
        have d1 := HS.out _ hB
        have HO1 := Lib.hid (Own.lit (w := wd) (B := wr.heap.size) 3 .i64 HB.out.size)
        replace HB := Lib.hid hB
        clear hB d0
        have d0 := d1
        clear d1
        have HSz : Hid (wd.heap.size < (wd.alloc (.cells #[] 3)).heap.size) := Lib.hid (by rw [World.size_alloc]; omega)
        refine hK.out _ _ (Or.inr d0) ?_
        clear hK K0
        try simp only [Act.put, List.setIfInBounds_toArray, List.set_cons_zero, List.set_cons_succ]
        obtain ⟨w2, hw2⟩ : ∃ x, x = wd.alloc (.cells #[] 3) := ⟨_, rfl⟩
        rw [← hw2] at HB d0 HO1 HSz ⊢
        clear hw2
        apply Till.two (i := 7) (j := 9)
        · kernel_rfl
        · simp only [List.getElem?_toArray, List.getElem?_cons_succ, List.getElem?_cons_zero]
          rfl
        · simp only [List.getElem?_toArray, List.getElem?_cons_succ, List.getElem?_cons_zero]
          rfl
        · intro K0 hK
          refine step_append_rds _ (by rfl) _ _ 24 (by rfl) 3 i0 (.int .i64 0) 8 Try.underlying24 Hhi.out hz0 hz1 hz2 rfl (by omega) (by rfl) HO1.out (by rfl) (S6.out.behind (HB.out.mono HLm.out)) (by have := HN.out; have := HL1.out; simp only [List.length_nil, List.length_take]; omega) ?_
          intro v7 w7 hO hg
          have hB := HB.out.trans ((HO1.out).below (Nat.le_refl _) hg)
          have d1 := HS.out _ hB
          replace HB := Lib.hid hB
          have HO7 := Lib.hid (show Own 3 .i64 wr.heap.size w7 v7 (zs.take j) from hO)
          clear hO hg hB d0
          have d0 := d1
          clear d1
          refine hK.out _ _ (Or.inr d0) ?_
          clear hK K0
          try simp only [Act.put, List.setIfInBounds_toArray, List.set_cons_zero, List.set_cons_succ]
          apply Till.one (i := 9)
          · kernel_rfl
          · simp only [List.getElem?_toArray, List.getElem?_cons_succ, List.getElem?_cons_zero]
            rfl
          intro K hK
          go_simp
          have hB := HB.out.alloc HB.out.size (.cells #[.int .i64 m] 3)
          have d1 := HS.out _ hB
          have HR1 := Lib.hid (Own.one (w := w7) (B := wr.heap.size) 3 .i64 HB.out.size HMw.out)
          have HO7b := Lib.hid (HO7.out.alloc (.cells #[.int .i64 m] 3))
          replace HB := Lib.hid hB
          clear hB d0
          have d0 := d1
          clear d1
          refine hK.out _ _ (Or.inr d0) ?_
          clear hK K
          try simp only [Act.put, List.setIfInBounds_toArray, List.set_cons_zero, List.set_cons_succ]
          obtain ⟨w9, hw9⟩ : ∃ x, x = w7.alloc (.cells #[.int .i64 m] 3) := ⟨_, rfl⟩
          rw [← hw9] at HB d0 HR1 HO7b ⊢
          clear hw9
          apply Till.one (i := 10)
          · kernel_rfl
          · simp only [List.getElem?_toArray, List.getElem?_cons_succ, List.getElem?_cons_zero]
            rfl
          intro K hK
          refine step_append_rds _ (by rfl) _ _ 24 (by rfl) 3 i0 (.int .i64 0) 8 Try.underlying24 Hhi.out hz0 hz1 hz2 rfl (by omega) (by rfl) HO7b.out (by rfl) HR1.out.rd (by have := HN.out; have := HL1.out; simp only [List.length_cons, List.length_nil, List.length_take]; omega) ?_
          intro v10 w10 hO hg
          have hB := HB.out.trans ((HO7b.out).below (Nat.le_refl _) hg)
          have d1 := HS.out _ hB
          replace HB := Lib.hid hB
          have HO10 := Lib.hid (show Own 3 .i64 wr.heap.size w10 v10 (zs.take j ++ [m]) from hO)
          clear hO hg hB d0
          have d0 := d1
          clear d1
          refine hK.out _ _ (Or.inr d0) ?_
          clear hK K
          try simp only [Act.put, List.setIfInBounds_toArray, List.set_cons_zero, List.set_cons_succ]
          apply Till.one (i := 15)
          · kernel_rfl
          · simp only [List.getElem?_toArray, List.getElem?_cons_succ, List.getElem?_cons_zero]
            rfl
          intro K hK
          refine step_append_rds _ (by rfl) _ _ 24 (by rfl) 3 i0 (.int .i64 0) 8 Try.underlying24 Hhi.out hz0 hz1 hz2 rfl (by omega) (by rfl) HO10.out (by rfl) (S14.out.behind (HB.out.mono HLm.out)) (by have := HN.out; have := HL1.out; simp only [List.length_cons, List.length_nil, List.length_append, List.length_take, List.length_drop]; omega) ?_
          intro v15 w15 hO hg
          have hB := HB.out.trans ((HO10.out).below (Nat.le_refl _) hg)
          have d1 := HS.out _ hB
          replace HB := Lib.hid hB
          have HO0 := Lib.hid (show Own 3 .i64 wr.heap.size w15 v15 (zs.take j ++ [m] ++ zs.drop j) from hO)
          clear hO hg hB d0
          have d0 := d1
          clear d1
          rw [HIns.out] at HO0
          obtain ⟨a3, c3, hv, _⟩ := HO0.out.open
          subst hv
          obtain ⟨nl, hnl⟩ : ∃ x, x = (insS zs m).length := ⟨_, rfl⟩
          have HO : Hid (Own 3 .i64 wr.heap.size w15 (.slice a3 nl c3) (insS zs m)) := Lib.hid (by rw [hnl]; exact HO0.out)
          rw [← hnl]
          clear HO0 hnl
          refine hK.out _ _ (Or.inr d0) ?_
          clear hK K
          try simp only [Act.put, List.setIfInBounds_toArray, List.set_cons_zero, List.set_cons_succ]
          apply Till.take (i := 16) [16, 17]
          · simp only [List.getElem?_toArray, List.getElem?_cons_succ, List.getElem?_cons_zero]
            rfl
          · kernel_rfl
          · kernel_rfl
          · kernel_rfl
          · kernel_rfl
          · exact fun _ _ _ h => h
          · first
              | exact Or.inr ⟨by rfl, rfl⟩
              | (refine Or.inl ⟨by rfl, fun wq hwq => ?_⟩
                 dsimp only at hwq
                 go_simp
                 first
                   | done
                   | rfl)
          · exact d0
          simp only [Act.put, List.setIfInBounds_toArray, List.set_cons_zero, List.set_cons_succ]
          have hCc := (HB.out.block _ HLt.out).trans HC.out
          obtain ⟨q0, q1, f0, f1⟩ := scs hCc
          obtain ⟨k9, g9⟩ := sst hCc (.int .i64 e) (.slice a3 nl c3)
          obtain ⟨r0, r1, _⟩ := scs k9
          have hB9 := (HB0.out.trans (HB.out.mono HB0.out.size)).grown g9 (HB0.out.trans (HB.out.mono HB0.out.size)).size (fun k hk => by injection hk with hk; omega)
          have hO9 := HO.out.kept g9 (Or.inr (fun hh => by have := (HO.out.lt _ hh).1; have := HLt.out; omega))
          have HB9 := Lib.hid hB9
          have HO9 := Lib.hid (hO9.mono HB0.out.size)
          clear k9 g9 hCc hB9 hO9
          apply Till.one (i := 17)
          · kernel_rfl
          · simp only [List.getElem?_toArray, List.getElem?_cons_succ, List.getElem?_cons_zero]
            rfl
          intro K hK
          go_simp
          skip
          refine hK.out _ _ (Or.inl (by rfl)) ?_
          clear hK K
          try simp only [Act.put, List.setIfInBounds_toArray, List.set_cons_zero, List.set_cons_succ]
          refine Till.done (by kernel_rfl) ?_ _
          go_wp2_with fail
          exact bodyPost_ret (v := .agg #[.int .i64 e, .slice a3 nl c3]) (by simp [results, Try.results55, go_sem, r0, r1]) rfl ⟨_, rfl, HO9.out, HB9.out⟩
        · intro K0 hK
          go_simp
          have hB := HB.out.alloc HB.out.size (.cells #[.int .i64 m] 3)
          have d1 := HS.out _ hB
          have HR1 := Lib.hid (Own.one (w := w2) (B := wr.heap.size) 3 .i64 HB.out.size HMw.out)
          have HO1b := Lib.hid (HO1.out.alloc (.cells #[.int .i64 m] 3))
          replace HB := Lib.hid hB
          clear hB d0
          have d0 := d1
          clear d1
          refine hK.out _ _ (Or.inr d0) ?_
          clear hK K0
          try simp only [Act.put, List.setIfInBounds_toArray, List.set_cons_zero, List.set_cons_succ]
          have HAp : Hid (Apart (.slice (some ⟨w2.heap.size, 0, none⟩) 1 1) (.slice (some ⟨wd.heap.size, 0, none⟩) 0 0)) := Lib.hid (fun r h1 h2 => by simp only [Value.ownBlock, Option.some.injEq] at h1 h2; have := HSz.out; omega)
          obtain ⟨w9, hw9⟩ : ∃ x, x = w2.alloc (.cells #[.int .i64 m] 3) := ⟨_, rfl⟩
          rw [← hw9] at HB d0 HR1 HO1b ⊢
          clear hw9
          apply Till.one (i := 7)
          · kernel_rfl
          · simp only [List.getElem?_toArray, List.getElem?_cons_succ, List.getElem?_cons_zero]
            rfl
          intro K hK
          refine step_append_rds _ (by rfl) _ _ 24 (by rfl) 3 i0 (.int .i64 0) 8 Try.underlying24 Hhi.out hz0 hz1 hz2 rfl (by omega) (by rfl) HO1b.out (by rfl) (S6.out.behind (HB.out.mono HLm.out)) (by have := HN.out; have := HL1.out; simp only [List.length_nil, List.length_take]; omega) ?_
          intro v7 w7 hO hg
          have hB := HB.out.trans ((HO1b.out).below (Nat.le_refl _) hg)
          have d1 := HS.out _ hB
          replace HB := Lib.hid hB
          have HR2 := Lib.hid (HR1.out.beside HAp.out hg)
          have HO7 := Lib.hid (show Own 3 .i64 wr.heap.size w7 v7 (zs.take j) from hO)
          clear hO hg hB d0
          have d0 := d1
          clear d1
          refine hK.out _ _ (Or.inr d0) ?_
          clear hK K
          try simp only [Act.put, List.setIfInBounds_toArray, List.set_cons_zero, List.set_cons_succ]
          apply Till.one (i := 10)
          · kernel_rfl
          · simp only [List.getElem?_toArray, List.getElem?_cons_succ, List.getElem?_cons_zero]
            rfl
          intro K hK
          refine step_append_rds _ (by rfl) _ _ 24 (by rfl) 3 i0 (.int .i64 0) 8 Try.underlying24 Hhi.out hz0 hz1 hz2 rfl (by omega) (by rfl) HO7.out (by rfl) HR2.out.rd (by have := HN.out; have := HL1.out; simp only [List.length_cons, List.length_nil, List.length_take]; omega) ?_
          intro v10 w10 hO hg
          have hB := HB.out.trans ((HO7.out).below (Nat.le_refl _) hg)
          have d1 := HS.out _ hB
          replace HB := Lib.hid hB
          have HO10 := Lib.hid (show Own 3 .i64 wr.heap.size w10 v10 (zs.take j ++ [m]) from hO)
          clear hO hg hB d0
          have d0 := d1
          clear d1
          refine hK.out _ _ (Or.inr d0) ?_
          clear hK K
          try simp only [Act.put, List.setIfInBounds_toArray, List.set_cons_zero, List.set_cons_succ]
          apply Till.one (i := 15)
          · kernel_rfl
          · simp only [List.getElem?_toArray, List.getElem?_cons_succ, List.getElem?_cons_zero]
            rfl
          intro K hK
          refine step_append_rds _ (by rfl) _ _ 24 (by rfl) 3 i0 (.int .i64 0) 8 Try.underlying24 Hhi.out hz0 hz1 hz2 rfl (by omega) (by rfl) HO10.out (by rfl) (S14.out.behind (HB.out.mono HLm.out)) (by have := HN.out; have := HL1.out; simp only [List.length_cons, List.length_nil, List.length_append, List.length_take, List.length_drop]; omega) ?_
          intro v15 w15 hO hg
          have hB := HB.out.trans ((HO10.out).below (Nat.le_refl _) hg)
          have d1 := HS.out _ hB
          replace HB := Lib.hid hB
          have HO0 := Lib.hid (show Own 3 .i64 wr.heap.size w15 v15 (zs.take j ++ [m] ++ zs.drop j) from hO)
          clear hO hg hB d0
          have d0 := d1
          clear d1
          rw [HIns.out] at HO0
          obtain ⟨a3, c3, hv, _⟩ := HO0.out.open
          subst hv
          obtain ⟨nl, hnl⟩ : ∃ x, x = (insS zs m).length := ⟨_, rfl⟩
          have HO : Hid (Own 3 .i64 wr.heap.size w15 (.slice a3 nl c3) (insS zs m)) := Lib.hid (by rw [hnl]; exact HO0.out)
          rw [← hnl]
          clear HO0 hnl
          refine hK.out _ _ (Or.inr d0) ?_
          clear hK K
          try simp only [Act.put, List.setIfInBounds_toArray, List.set_cons_zero, List.set_cons_succ]
          apply Till.take (i := 16) [16, 17]
          · simp only [List.getElem?_toArray, List.getElem?_cons_succ, List.getElem?_cons_zero]
            rfl
          · kernel_rfl
          · kernel_rfl
          · kernel_rfl
          · kernel_rfl
          · exact fun _ _ _ h => h
          · first
              | exact Or.inr ⟨by rfl, rfl⟩
              | (refine Or.inl ⟨by rfl, fun wq hwq => ?_⟩
                 dsimp only at hwq
                 go_simp
                 first
                   | done
                   | rfl)
          · exact d0
          simp only [Act.put, List.setIfInBounds_toArray, List.set_cons_zero, List.set_cons_succ]
          have hCc := (HB.out.block _ HLt.out).trans HC.out
          obtain ⟨q0, q1, f0, f1⟩ := scs hCc
          obtain ⟨k9, g9⟩ := sst hCc (.int .i64 e) (.slice a3 nl c3)
          obtain ⟨r0, r1, _⟩ := scs k9
          have hB9 := (HB0.out.trans (HB.out.mono HB0.out.size)).grown g9 (HB0.out.trans (HB.out.mono HB0.out.size)).size (fun k hk => by injection hk with hk; omega)
          have hO9 := HO.out.kept g9 (Or.inr (fun hh => by have := (HO.out.lt _ hh).1; have := HLt.out; omega))
          have HB9 := Lib.hid hB9
          have HO9 := Lib.hid (hO9.mono HB0.out.size)
          clear k9 g9 hCc hB9 hO9
          apply Till.one (i := 17)
          · kernel_rfl
          · simp only [List.getElem?_toArray, List.getElem?_cons_succ, List.getElem?_cons_zero]
            rfl
          intro K hK
          go_simp
          skip
          refine hK.out _ _ (Or.inl (by rfl)) ?_
          clear hK K
          try simp only [Act.put, List.setIfInBounds_toArray, List.set_cons_zero, List.set_cons_succ]
          refine Till.done (by kernel_rfl) ?_ _
          go_wp2_with fail
          exact bodyPost_ret (v := .agg #[.int .i64 e, .slice a3 nl c3]) (by simp [results, Try.results55, go_sem, r0, r1]) rfl ⟨_, rfl, HO9.out, HB9.out⟩
      · intro K0 hK
        go_simp
        have hB := HB.out.alloc HB.out.size (.cells #[.int .i64 m] 3)
        have d1 := HS.out _ hB
        have HR1 := Lib.hid (Own.one (w := wd) (B := wr.heap.size) 3 .i64 HB.out.size HMw.out)
        replace HB := Lib.hid hB
        clear hB d0
        have d0 := d1
        clear d1
        have HSz : Hid (wd.heap.size < (wd.alloc (.cells #[.int .i64 m] 3)).heap.size) := Lib.hid (by rw [World.size_alloc]; omega)
        refine hK.out _ _ (Or.inr d0) ?_
        clear hK K0
        try simp only [Act.put, List.setIfInBounds_toArray, List.set_cons_zero, List.set_cons_succ]
        obtain ⟨w9, hw9⟩ : ∃ x, x = wd.alloc (.cells #[.int .i64 m] 3) := ⟨_, rfl⟩
        rw [← hw9] at HB d0 HR1 HSz ⊢
        clear hw9
        apply Till.one (i := 2)
        · kernel_rfl
        · simp only [List.getElem?_toArray, List.getElem?_cons_succ, List.getElem?_cons_zero]
          rfl
        intro K hK
        go_simp
        have hB := HB.out.alloc HB.out.size (.cells #[] 3)
        have d1 := HS.out _ hB
        have HO1 := Lib.hid (Own.lit (w := w9) (B := wr.heap.size) 3 .i64 HB.out.size)
        have HR1b := Lib.hid (HR1.out.next ((Below.refl _ _).alloc (Nat.le_refl _) (.cells #[] 3)))
        replace HB := Lib.hid hB
        clear hB d0
        have d0 := d1
        clear d1
        refine hK.out _ _ (Or.inr d0) ?_
        clear hK K
        try simp only [Act.put, List.setIfInBounds_toArray, List.set_cons_zero, List.set_cons_succ]
        have HAp : Hid (Apart (.slice (some ⟨wd.heap.size, 0, none⟩) 1 1) (.slice (some ⟨w9.heap.size, 0, none⟩) 0 0)) := Lib.hid (fun r h1 h2 => by simp only [Value.ownBlock, Option.some.injEq] at h1 h2; have := HSz.out; omega)
        obtain ⟨w2, hw2⟩ : ∃ x, x = w9.alloc (.cells #[] 3) := ⟨_, rfl⟩
        rw [← hw2] at HB d0 HO1 HR1b ⊢
        clear hw2
        clear HR1
        have HR1 := HR1b
        clear HR1b
        apply Till.one (i := 7)
        · kernel_rfl
        · simp only [List.getElem?_toArray, List.getElem?_cons_succ, List.getElem?_cons_zero]
          rfl
        intro K hK
        refine step_append_rds _ (by rfl) _ _ 24 (by rfl) 3 i0 (.int .i64 0) 8 Try.underlying24 Hhi.out hz0 hz1 hz2 rfl (by omega) (by rfl) HO1.out (by rfl) (S6.out.behind (HB.out.mono HLm.out)) (by have := HN.out; have := HL1.out; simp only [List.length_nil, List.length_take]; omega) ?_
        intro v7 w7 hO hg
        have hB := HB.out.trans ((HO1.out).below (Nat.le_refl _) hg)
        have d1 := HS.out _ hB
        replace HB := Lib.hid hB
        have HR2 := Lib.hid (HR1.out.beside HAp.out hg)
        have HO7 := Lib.hid (show Own 3 .i64 wr.heap.size w7 v7 (zs.take j) from hO)
        clear hO hg hB d0
        have d0 := d1
        clear d1
        refine hK.out _ _ (Or.inr d0) ?_
        clear hK K
        try simp only [Act.put, List.setIfInBounds_toArray, List.set_cons_zero, List.set_cons_succ]
        apply Till.one (i := 10)
        · kernel_rfl
        · simp only [List.getElem?_toArray, List.getElem?_cons_succ, List.getElem?_cons_zero]
          rfl
        intro K hK
        refine step_append_rds _ (by rfl) _ _ 24 (by rfl) 3 i0 (.int .i64 0) 8 Try.underlying24 Hhi.out hz0 hz1 hz2 rfl (by omega) (by rfl) HO7.out (by rfl) HR2.out.rd (by have := HN.out; have := HL1.out; simp only [List.length_cons, List.length_nil, List.length_take]; omega) ?_
        intro v10 w10 hO hg
        have hB := HB.out.trans ((HO7.out).below (Nat.le_refl _) hg)
        have d1 := HS.out _ hB
        replace HB := Lib.hid hB
        have HO10 := Lib.hid (show Own 3 .i64 wr.heap.size w10 v10 (zs.take j ++ [m]) from hO)
        clear hO hg hB d0
        have d0 := d1
        clear d1
        refine hK.out _ _ (Or.inr d0) ?_
        clear hK K
        try simp only [Act.put, List.setIfInBounds_toArray, List.set_cons_zero, List.set_cons_succ]
        apply Till.one (i := 15)
        · kernel_rfl
        · simp only [List.getElem?_toArray, List.getElem?_cons_succ, List.getElem?_cons_zero]
          rfl
        intro K hK
        refine step_append_rds _ (by rfl) _ _ 24 (by rfl) 3 i0 (.int .i64 0) 8 Try.underlying24 Hhi.out hz0 hz1 hz2 rfl (by omega) (by rfl) HO10.out (by rfl) (S14.out.behind (HB.out.mono HLm.out)) (by have := HN.out; have := HL1.out; simp only [List.length_cons, List.length_nil, List.length_append, List.length_take, List.length_drop]; omega) ?_
        intro v15 w15 hO hg
        have hB := HB.out.trans ((HO10.out).below (Nat.le_refl _) hg)
        have d1 := HS.out _ hB
        replace HB := Lib.hid hB
        have HO0 := Lib.hid (show Own 3 .i64 wr.heap.size w15 v15 (zs.take j ++ [m] ++ zs.drop j) from hO)
        clear hO hg hB d0
        have d0 := d1
        clear d1
        rw [HIns.out] at HO0
        obtain ⟨a3, c3, hv, _⟩ := HO0.out.open
        subst hv
        obtain ⟨nl, hnl⟩ : ∃ x, x = (insS zs m).length := ⟨_, rfl⟩
        have HO : Hid (Own 3 .i64 wr.heap.size w15 (.slice a3 nl c3) (insS zs m)) := Lib.hid (by rw [hnl]; exact HO0.out)
        rw [← hnl]
        clear HO0 hnl
        refine hK.out _ _ (Or.inr d0) ?_
        clear hK K
        try simp only [Act.put, List.setIfInBounds_toArray, List.set_cons_zero, List.set_cons_succ]
        apply Till.take (i := 16) [16, 17]
        · simp only [List.getElem?_toArray, List.getElem?_cons_succ, List.getElem?_cons_zero]
          rfl
        · kernel_rfl
        · kernel_rfl
        · kernel_rfl
        · kernel_rfl
        · exact fun _ _ _ h => h
        · first
            | exact Or.inr ⟨by rfl, rfl⟩
            | (refine Or.inl ⟨by rfl, fun wq hwq => ?_⟩
               dsimp only at hwq
               go_simp
               first
                 | done
                 | rfl)
        · exact d0
        simp only [Act.put, List.setIfInBounds_toArray, List.set_cons_zero, List.set_cons_succ]
        have hCc := (HB.out.block _ HLt.out).trans HC.out
        obtain ⟨q0, q1, f0, f1⟩ := scs hCc
        obtain ⟨k9, g9⟩ := sst hCc (.int .i64 e) (.slice a3 nl c3)
        obtain ⟨r0, r1, _⟩ := scs k9
        have hB9 := (HB0.out.trans (HB.out.mono HB0.out.size)).grown g9 (HB0.out.trans (HB.out.mono HB0.out.size)).size (fun k hk => by injection hk with hk; omega)
        have hO9 := HO.out.kept g9 (Or.inr (fun hh => by have := (HO.out.lt _ hh).1; have := HLt.out; omega))
        have HB9 := Lib.hid hB9
        have HO9 := Lib.hid (hO9.mono HB0.out.size)
        clear k9 g9 hCc hB9 hO9
        apply Till.one (i := 17)
        · kernel_rfl
        · simp only [List.getElem?_toArray, List.getElem?_cons_succ, List.getElem?_cons_zero]
          rfl
        intro K hK
        go_simp
        skip
        refine hK.out _ _ (Or.inl (by rfl)) ?_
        clear hK K
        try simp only [Act.put, List.setIfInBounds_toArray, List.set_cons_zero, List.set_cons_succ]
        refine Till.done (by kernel_rfl) ?_ _
        go_wp2_with fail
        exact bodyPost_ret (v := .agg #[.int .i64 e, .slice a3 nl c3]) (by simp [results, Try.results55, go_sem, r0, r1]) rfl ⟨_, rfl, HO9.out, HB9.out⟩

end Go.Proofs.Ytdlbpeippmibcaa
