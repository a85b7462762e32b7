/- Spent lists: copies, a serial number put into its place; the program's and the document's. No conditions but numbers and lengths that a machine holds. Spent lists: a row of the call's own, sorted; the list of a map's keys in order (listSpent). No conditions but numbers and lengths that a machine holds. -/
import Derived.Test.YtdlbpeippmibcaaSpA
import Derived.Test.YtdlbpeippmibcaaBa2
import Derived.Test.YtdlbpeippmibcaaBa8
import Derived.Test.YtdlbpeippmibcaaHeldL
import Derived.Test.YtdlbpeippmibcaaShelf

/-! Sp3 -/
namespace Go.Proofs.Ytdlbpeippmibcaa
open Go Go.RowKit
set_option linter.unusedVariables false
set_option maxRecDepth 20000
attribute [local irreducible] kh kid pwm tcm pw chl

set_option maxHeartbeats 4000000 in
/-- impl.copySpentList -/
theorem impl_cpy {lim : Nat} {w : World} {v : Value} {zs : List Int} {e : Int} (h : Rd lim .i64 w v zs) (hlim : lim ≤ w.heap.size) (hn : zs.length ≤ 17592186044415) :
    Calls Try.prog 50 #[.agg #[.int .i64 e, v]] w fun x w' => ∃ v', x = .returned (.agg #[.int .i64 e, v']) ∧ Own 3 .i64 w.heap.size w' v' zs ∧ Below w.heap.size w w' := by
  obtain ⟨p, cap, rfl, h1, h2, hc⟩ := h.open
  have K := blocks2T w (.cells #[.int .i64 e, .slice p zs.length cap] 26) (.cells #[.int .i64 0, .slice none 0 0] 26)
  have hb := ((Below.refl w.heap.size w).alloc (Nat.le_refl _) (.cells #[.int .i64 e, .slice p zs.length cap] 26)).alloc (by simp) (.cells #[.int .i64 0, .slice none 0 0] 26)
  obtain ⟨W0, hW0⟩ : ∃ W, W = (w.alloc (.cells #[.int .i64 e, .slice p zs.length cap] 26)).alloc (.cells #[.int .i64 0, .slice none 0 0] 26) := ⟨_, rfl⟩
  rw [← hW0] at K hb
  have HW0 := Lib.hid hW0
  have HA := Lib.hid K.1
  have HC := Lib.hid K.2
  have HB0 := Lib.hid hb
  have HRd := Lib.hid (h.behind (hb.mono hlim))
  have HLm := Lib.hid (show lim ≤ W0.heap.size from Nat.le_trans hlim hb.size)
  have HLt := Lib.hid (lt_of_block K.2)
  have HS : Hid (∀ x, Below W0.heap.size W0 x → (x.cell? ⟨w.heap.size, 0, none⟩ = some (.int .i64 e) ∧ x.cell? ⟨w.heap.size, 1, none⟩ = some (.slice p zs.length cap))) := Lib.hid (fun x hx => by obtain ⟨q0, q1, _⟩ := scs ((hx.block _ (lt_of_block K.1)).trans K.1); exact ⟨q0, q1⟩)
  have Hc := Lib.hid hc
  have H := Lib.hid h
  have HN := Lib.hid hn
  have hlen : zs.length ≤ 9223372036854775807 := by unfold maxLen at h2; omega
  clear h hc K hb hW0 hn
  unfold maxLen at h2
  go_enter Try.func50, Try.ntmps50
  go_wp2_with fail
  rw [← HW0.out]
  refine region_till (fun x => x.cell? ⟨w.heap.size, 0, none⟩ = some (.int .i64 e) ∧ x.cell? ⟨w.heap.size, 1, none⟩ = some (.slice p zs.length cap)) 6 (by kernel_rfl) ?_
  obtain ⟨wd, hwd⟩ : ∃ x, x = W0.drew := ⟨_, rfl⟩
  have HB : Hid (Below W0.heap.size W0 wd) := Lib.hid (by rw [hwd]; exact (Below.refl _ _).drew)
  have d0 := HS.out _ HB.out
  rw [← hwd]
  clear hwd
  apply Till.take (i := 0) [0, 1, 5, 6]
  · simp only [List.getElem?_toArray, List.getElem?_cons_zero]
    rfl
  · kernel_rfl
  · kernel_rfl
  · kernel_rfl
  · kernel_rfl
  · exact fun _ _ _ h => h
  · first
      | exact Or.inr ⟨by rfl, rfl⟩
      | (refine Or.inl ⟨by rfl, fun wq hwq => ?_⟩
         dsimp only at hwq
         go_simp
         first
           | done
           | rfl)
  · exact d0
  simp only [Act.put, List.setIfInBounds_toArray, List.set_cons_zero, List.set_cons_succ]
  apply Till.take (i := 1) [1, 5, 6]
  · simp only [List.getElem?_toArray, List.getElem?_cons_succ, List.getElem?_cons_zero]
    rfl
  · kernel_rfl
  · kernel_rfl
  · kernel_rfl
  · kernel_rfl
  · exact fun _ _ _ h => h
  · first
      | exact Or.inr ⟨by rfl, rfl⟩
      | (refine Or.inl ⟨by rfl, fun wq hwq => ?_⟩
         dsimp only at hwq
         go_simp
         first
           | done
           | rfl)
  · exact d0
  simp only [Act.put, List.setIfInBounds_toArray, List.set_cons_zero, List.set_cons_succ]
  apply Till.take (i := 2) [2, 3, 4, 5, 6]
  · simp only [List.getElem?_toArray, List.getElem?_cons_succ, List.getElem?_cons_zero]
    rfl
  · kernel_rfl
  · kernel_rfl
  · kernel_rfl
  · kernel_rfl
  · exact fun _ _ _ h => h
  · first
      | exact Or.inr ⟨by rfl, rfl⟩
      | (refine Or.inl ⟨by rfl, fun wq hwq => ?_⟩
         dsimp only at hwq
         go_simp
         first
           | done
           | rfl)
  · exact d0
  simp only [Act.put, List.setIfInBounds_toArray, List.set_cons_zero, List.set_cons_succ]
  apply Till.take (i := 3) [3, 4, 5, 6]
  · simp only [List.getElem?_toArray, List.getElem?_cons_succ, List.getElem?_cons_zero]
    rfl
  · kernel_rfl
  · kernel_rfl
  · kernel_rfl
  · kernel_rfl
  · exact fun _ _ _ h => h
  · first
      | exact Or.inr ⟨by rfl, rfl⟩
      | (refine Or.inl ⟨by rfl, fun wq hwq => ?_⟩
         dsimp only at hwq
         go_simp
         first
           | done
           | rfl)
  · exact d0
  simp only [Act.put, List.setIfInBounds_toArray, List.set_cons_zero, List.set_cons_succ]
  apply Till.one (i := 4)
  · kernel_rfl
  · simp only [List.getElem?_toArray, List.getElem?_cons_succ, List.getElem?_cons_zero]
    rfl
  intro K hK
  go_simp
  refine (clone_ints (HRd.out.behind (HB.out.mono HLm.out)) (Nat.le_trans HLm.out HB.out.size) HN.out).mono ?_
  rintro e' w3 ⟨v3, he, hO, hb⟩
  subst he
  obtain ⟨a3, c3, hv, _⟩ := hO.open
  subst hv
  have hB := HB.out.trans (hb.mono HB.out.size)
  have d1 := HS.out _ hB
  have HO : Hid (Own 3 .i64 W0.heap.size w3 (.slice a3 zs.length c3) zs) := Lib.hid (hO.mono HB.out.size)
  replace HB := Lib.hid hB
  clear hO hb hB d0
  have d0 := d1
  clear d1
  refine hK.out _ _ (Or.inr d0) ?_
  clear hK K
  try simp only [Act.put, List.setIfInBounds_toArray, List.set_cons_zero, List.set_cons_succ]
  apply Till.take (i := 5) [5, 6]
  · simp only [List.getElem?_toArray, List.getElem?_cons_succ, List.getElem?_cons_zero]
    rfl
  · kernel_rfl
  · kernel_rfl
  · kernel_rfl
  · kernel_rfl
  · exact fun _ _ _ h => h
  · first
      | exact Or.inr ⟨by rfl, rfl⟩
      | (refine Or.inl ⟨by rfl, fun wq hwq => ?_⟩
         dsimp only at hwq
         go_simp
         first
           | done
           | rfl)
  · exact d0
  simp only [Act.put, List.setIfInBounds_toArray, List.set_cons_zero, List.set_cons_succ]
  have hCc := (HB.out.block _ HLt.out).trans HC.out
  obtain ⟨q0, q1, f0, f1⟩ := scs hCc
  obtain ⟨k9, g9⟩ := sst hCc (.int .i64 e) (.slice a3 zs.length c3)
  obtain ⟨r0, r1, _⟩ := scs k9
  have hB9 := (HB0.out.trans (HB.out.mono HB0.out.size)).grown g9 (HB0.out.trans (HB.out.mono HB0.out.size)).size (fun k hk => by injection hk with hk; omega)
  have hO9 := HO.out.kept g9 (Or.inr (fun hh => by have := (HO.out.lt _ hh).1; have := HLt.out; omega))
  have HB9 := Lib.hid hB9
  have HO9 := Lib.hid (hO9.mono HB0.out.size)
  clear k9 g9 hCc hB9 hO9
  apply Till.one (i := 6)
  · kernel_rfl
  · simp only [List.getElem?_toArray, List.getElem?_cons_succ, List.getElem?_cons_zero]
    rfl
  intro K hK
  go_simp
  skip
  refine hK.out _ _ (Or.inl (by rfl)) ?_
  clear hK K
  try simp only [Act.put, List.setIfInBounds_toArray, List.set_cons_zero, List.set_cons_succ]
  refine Till.done (by kernel_rfl) ?_ _
  go_wp2_with fail
  exact bodyPost_ret (v := .agg #[.int .i64 e, .slice a3 zs.length c3]) (by simp [results, Try.results50, go_sem, r0, r1]) rfl ⟨_, rfl, HO9.out, HB9.out⟩

set_option maxHeartbeats 4000000 in
/-- spec.l17Copy -/
theorem spec_cpy {lim : Nat} {w : World} {v : Value} {zs : List Int} {e : Int} (h : Rd lim .i64 w v zs) (hlim : lim ≤ w.heap.size) (hn : zs.length ≤ 17592186044415) :
    Calls Try.prog 54 #[.agg #[.int .i64 e, v]] w fun x w' => ∃ v', x = .returned (.agg #[.int .i64 e, v']) ∧ Own 3 .i64 w.heap.size w' v' zs ∧ Below w.heap.size w w' := by
  obtain ⟨i0, hi, hz0, hz1, hz2⟩ := info_parts infoi64
  have Hhi := Lib.hid hi
  clear hi
  obtain ⟨p, cap, rfl, h1, h2, hc⟩ := h.open
  have K := blocks2T w (.cells #[.int .i64 e, .slice p zs.length cap] 26) (.cells #[.int .i64 0, .slice none 0 0] 26)
  have hb := ((Below.refl w.heap.size w).alloc (Nat.le_refl _) (.cells #[.int .i64 e, .slice p zs.length cap] 26)).alloc (by simp) (.cells #[.int .i64 0, .slice none 0 0] 26)
  obtain ⟨W0, hW0⟩ : ∃ W, W = (w.alloc (.cells #[.int .i64 e, .slice p zs.length cap] 26)).alloc (.cells #[.int .i64 0, .slice none 0 0] 26) := ⟨_, rfl⟩
  rw [← hW0] at K hb
  have HW0 := Lib.hid hW0
  have HA := Lib.hid K.1
  have HC := Lib.hid K.2
  have HB0 := Lib.hid hb
  have HRd := Lib.hid (h.behind (hb.mono hlim))
  have HLm := Lib.hid (show lim ≤ W0.heap.size from Nat.le_trans hlim hb.size)
  have HLt := Lib.hid (lt_of_block K.2)
  have HS : Hid (∀ x, Below W0.heap.size W0 x → (x.cell? ⟨w.heap.size, 0, none⟩ = some (.int .i64 e) ∧ x.cell? ⟨w.heap.size, 1, none⟩ = some (.slice p zs.length cap))) := Lib.hid (fun x hx => by obtain ⟨q0, q1, _⟩ := scs ((hx.block _ (lt_of_block K.1)).trans K.1); exact ⟨q0, q1⟩)
  have Hc := Lib.hid hc
  have H := Lib.hid h
  have HN := Lib.hid hn
  have hlen : zs.length ≤ 9223372036854775807 := by unfold maxLen at h2; omega
  clear h hc K hb hW0 hn
  unfold maxLen at h2
  go_enter Try.func54, Try.ntmps54
  go_wp2_with fail
  rw [← HW0.out]
  refine region_till (fun x => x.cell? ⟨w.heap.size, 0, none⟩ = some (.int .i64 e) ∧ x.cell? ⟨w.heap.size, 1, none⟩ = some (.slice p zs.length cap)) 7 (by kernel_rfl) ?_
  obtain ⟨wd, hwd⟩ : ∃ x, x = W0.drew := ⟨_, rfl⟩
  have HB : Hid (Below W0.heap.size W0 wd) := Lib.hid (by rw [hwd]; exact (Below.refl _ _).drew)
  have d0 := HS.out _ HB.out
  rw [← hwd]
  clear hwd
  apply Till.take (i := 0) [0, 1, 6, 7]
  · simp only [List.getElem?_toArray, List.getElem?_cons_zero]
    rfl
  · kernel_rfl
  · kernel_rfl
  · kernel_rfl
  · kernel_rfl
  · exact fun _ _ _ h => h
  · first
      | exact Or.inr ⟨by rfl, rfl⟩
      | (refine Or.inl ⟨by rfl, fun wq hwq => ?_⟩
         dsimp only at hwq
         go_simp
         first
           | done
           | rfl)
  · exact d0
  simp only [Act.put, List.setIfInBounds_toArray, List.set_cons_zero, List.set_cons_succ]
  apply Till.take (i := 1) [1, 6, 7]
  · simp only [List.getElem?_toArray, List.getElem?_cons_succ, List.getElem?_cons_zero]
    rfl
  · kernel_rfl
  · kernel_rfl
  · kernel_rfl
  · kernel_rfl
  · exact fun _ _ _ h => h
  · first
      | exact Or.inr ⟨by rfl, rfl⟩
      | (refine Or.inl ⟨by rfl, fun wq hwq => ?_⟩
         dsimp only at hwq
         go_simp
         first
           | done
           | rfl)
  · exact d0
  simp only [Act.put, List.setIfInBounds_toArray, List.set_cons_zero, List.set_cons_succ]
  apply Till.take (i := 3) [3, 4, 5, 6, 7]
  · simp only [List.getElem?_toArray, List.getElem?_cons_succ, List.getElem?_cons_zero]
    rfl
  · kernel_rfl
  · kernel_rfl
  · kernel_rfl
  · kernel_rfl
  · exact fun _ _ _ h => h
  · first
      | exact Or.inr ⟨by rfl, rfl⟩
      | (refine Or.inl ⟨by rfl, fun wq hwq => ?_⟩
         dsimp only at hwq
         go_simp
         first
           | done
           | rfl)
  · exact d0
  simp only [Act.put, List.setIfInBounds_toArray, List.set_cons_zero, List.set_cons_succ]
  apply Till.take (i := 4) [4, 5, 6, 7]
  · simp only [List.getElem?_toArray, List.getElem?_cons_succ, List.getElem?_cons_zero]
    rfl
  · kernel_rfl
  · kernel_rfl
  · kernel_rfl
  · kernel_rfl
  · exact fun _ _ _ h => h
  · first
      | exact Or.inr ⟨by rfl, rfl⟩
      | (refine Or.inl ⟨by rfl, fun wq hwq => ?_⟩
         dsimp only at hwq
         go_simp
         first
           | done
           | rfl)
  · exact d0
  simp only [Act.put, List.setIfInBounds_toArray, List.set_cons_zero, List.set_cons_succ]
  apply Till.one (i := 2)
  · kernel_rfl
  · simp only [List.getElem?_toArray, List.getElem?_cons_succ, List.getElem?_cons_zero]
    rfl
  intro K hK
  go_simp
  have hB := HB.out.alloc HB.out.size (.cells #[] 3)
  have d1 := HS.out _ hB
  have HO1 := Lib.hid (Own.lit (w := wd) (B := W0.heap.size) 3 .i64 HB.out.size)
  replace HB := Lib.hid hB
  clear hB d0
  have d0 := d1
  clear d1
  refine hK.out _ _ (Or.inr d0) ?_
  clear hK K
  try simp only [Act.put, List.setIfInBounds_toArray, List.set_cons_zero, List.set_cons_succ]
  obtain ⟨w2, hw2⟩ : ∃ x, x = wd.alloc (.cells #[] 3) := ⟨_, rfl⟩
  rw [← hw2] at HB d0 HO1 ⊢
  clear hw2
  apply Till.one (i := 5)
  · kernel_rfl
  · simp only [List.getElem?_toArray, List.getElem?_cons_succ, List.getElem?_cons_zero]
    rfl
  intro K hK
  refine step_append_rds _ (by rfl) _ _ 24 (by rfl) 3 i0 (.int .i64 0) 8 Try.underlying24 Hhi.out hz0 hz1 hz2 rfl (by omega) (by rfl) HO1.out (by rfl) (HRd.out.behind (HB.out.mono HLm.out)) (by have := HN.out; simp only [List.length_nil]; omega) ?_
  intro v3 w3 hO hg
  have hB := HB.out.trans ((HO1.out).below (Nat.le_refl _) hg)
  have d1 := HS.out _ hB
  replace HB := Lib.hid hB
  have HO0 := Lib.hid (show Own 3 .i64 W0.heap.size w3 v3 zs from hO)
  clear hO hg hB d0
  have d0 := d1
  clear d1
  obtain ⟨a3, c3, hv, _⟩ := HO0.out.open
  subst hv
  have HO : Hid (Own 3 .i64 W0.heap.size w3 (.slice a3 zs.length c3) zs) := HO0
  clear HO1 HO0
  refine hK.out _ _ (Or.inr d0) ?_
  clear hK K
  try simp only [Act.put, List.setIfInBounds_toArray, List.set_cons_zero, List.set_cons_succ]
  apply Till.take (i := 6) [6, 7]
  · simp only [List.getElem?_toArray, List.getElem?_cons_succ, List.getElem?_cons_zero]
    rfl
  · kernel_rfl
  · kernel_rfl
  · kernel_rfl
  · kernel_rfl
  · exact fun _ _ _ h => h
  · first
      | exact Or.inr ⟨by rfl, rfl⟩
      | (refine Or.inl ⟨by rfl, fun wq hwq => ?_⟩
         dsimp only at hwq
         go_simp
         first
           | done
           | rfl)
  · exact d0
  simp only [Act.put, List.setIfInBounds_toArray, List.set_cons_zero, List.set_cons_succ]
  have hCc := (HB.out.block _ HLt.out).trans HC.out
  obtain ⟨q0, q1, f0, f1⟩ := scs hCc
  obtain ⟨k9, g9⟩ := sst hCc (.int .i64 e) (.slice a3 zs.length c3)
  obtain ⟨r0, r1, _⟩ := scs k9
  have hB9 := (HB0.out.trans (HB.out.mono HB0.out.size)).grown g9 (HB0.out.trans (HB.out.mono HB0.out.size)).size (fun k hk => by injection hk with hk; omega)
  have hO9 := HO.out.kept g9 (Or.inr (fun hh => by have := (HO.out.lt _ hh).1; have := HLt.out; omega))
  have HB9 := Lib.hid hB9
  have HO9 := Lib.hid (hO9.mono HB0.out.size)
  clear k9 g9 hCc hB9 hO9
  apply Till.one (i := 7)
  · kernel_rfl
  · simp only [List.getElem?_toArray, List.getElem?_cons_succ, List.getElem?_cons_zero]
    rfl
  intro K hK
  go_simp
  skip
  refine hK.out _ _ (Or.inl (by rfl)) ?_
  clear hK K
  try simp only [Act.put, List.setIfInBounds_toArray, List.set_cons_zero, List.set_cons_succ]
  refine Till.done (by kernel_rfl) ?_ _
  go_wp2_with fail
  exact bodyPost_ret (v := .agg #[.int .i64 e, .slice a3 zs.length c3]) (by simp [results, Try.results54, go_sem, r0, r1]) rfl ⟨_, rfl, HO9.out, HB9.out⟩

set_option maxHeartbeats 16000000 in
/-- spec.l17Insert -/
theorem spec_ins {lim : Nat} {w : World} {v : Value} {zs : List Int} {e m : Int} (h : Rd lim .i64 w v zs) (hlim : lim ≤ w.heap.size) (hn : zs.length ≤ 17592186044414) (hm : (Lit.int .i64 m).wf = true) :
    Calls Try.prog 55 #[.agg #[.int .i64 e, v], .int .i64 m] w fun x w' => ∃ v', x = .returned (.agg #[.int .i64 e, v']) ∧ Own 3 .i64 w.heap.size w' v' (insS zs m) ∧ Below w.heap.size w w' := by
  obtain ⟨i0, hi, hz0, hz1, hz2⟩ := info_parts infoi64
  have Hhi := Lib.hid hi
  have HMw := Lib.hid hm
  clear hi hm
  obtain ⟨p, cap, rfl, h1, h2, hc⟩ := h.open
  have K := blocks2T w (.cells #[.int .i64 e, .slice p zs.length cap] 26) (.cells #[.int .i64 0, .slice none 0 0] 26)
  have hb := ((Below.refl w.heap.size w).alloc (Nat.le_refl _) (.cells #[.int .i64 e, .slice p zs.length cap] 26)).alloc (by simp) (.cells #[.int .i64 0, .slice none 0 0] 26)
  obtain ⟨W0, hW0⟩ : ∃ W, W = (w.alloc (.cells #[.int .i64 e, .slice p zs.length cap] 26)).alloc (.cells #[.int .i64 0, .slice none 0 0] 26) := ⟨_, rfl⟩
  rw [← hW0] at K hb
  have HW0 := Lib.hid hW0
  have HA := Lib.hid K.1
  have HC := Lib.hid K.2
  have HB0 := Lib.hid hb
  have HRd := Lib.hid (h.behind (hb.mono hlim))
  have HLm := Lib.hid (show lim ≤ W0.heap.size from Nat.le_trans hlim hb.size)
  have HLt := Lib.hid (lt_of_block K.2)
  have HS : Hid (∀ x, Below W0.heap.size W0 x → (x.cell? ⟨w.heap.size, 0, none⟩ = some (.int .i64 e) ∧ x.cell? ⟨w.heap.size, 1, none⟩ = some (.slice p zs.length cap))) := Lib.hid (fun x hx => by obtain ⟨q0, q1, _⟩ := scs ((hx.block _ (lt_of_block K.1)).trans K.1); exact ⟨q0, q1⟩)
  have Hc := Lib.hid hc
  have H := Lib.hid h
  have HN := Lib.hid hn
  have hlen : zs.length ≤ 9223372036854775807 := by unfold maxLen at h2; omega
  clear h hc K hb hW0 hn
  unfold maxLen at h2
  have HSl := fun (l n : Nat) (hl : l + n ≤ zs.length) => Lib.hid (HRd.out.sliced (l := l) (n := n) hl)
  go_enter Try.func55, Try.ntmps55
  go_wp2_with fail
  rw [← HW0.out]
  go_loopw [5] (fun i wr => ∃ j : Nat, i = .int .i64 j ∧ j ≤ zs.length ∧ (∀ i, i < j → zs.getD i 0 < m) ∧ wr = W0) (fun i _ => zs.length - (intOf i).toNat)
  case atStart => exact ⟨0, rfl, Nat.zero_le _, fun i hi => by omega, rfl⟩
  case round =>
    obtain ⟨j, rfl, hj, hlo, rfl⟩ := hrel
    have HLo := Lib.hid hlo
    obtain ⟨c0, c1⟩ := HS.out _ (Below.refl _ _)
    clear hlo
    by_cases hlt : j < zs.length
    case pos =>
      have e1 : decide ((j : Int) < (zs.length : Int)) = true := by simp; omega
      have hji : (j : Int) < (zs.length : Int) := by omega
      obtain ⟨b, o, hp, hb, hcell⟩ := Hc.out (by omega)
      have d1 := hcell _ (HB0.out.mono hlim) j hlt
      obtain ⟨z, hz⟩ : ∃ z, z = zs.getD j 0 := ⟨_, rfl⟩
      rw [← hz] at d1
      have HZ := Lib.hid hz
      clear hcell hz
      by_cases hzm : z < m
      · have e2 : decide (z < m) = true := decide_eq_true hzm
        have HZm := Lib.hid hzm
        subst hp
        clear hzm
        go_wp2_with fail
        go_roundw
        case rel =>
          refine ⟨j + 1, by simp, hlt, fun i hi => ?_, by first | rfl | trivial⟩
          by_cases hij : i = j
          · rw [hij, ← HZ.out]; exact HZm.out
          · exact HLo.out i (by omega)
        case measure => simp [intOf]; omega
      · have e2 : decide (z < m) = false := decide_eq_false hzm
        have HK : Hid (insK zs m = j) := Lib.hid (insK_is hj HLo.out (fun _ => by rw [← HZ.out]; exact hzm))
        subst hp
        clear hzm
        go_wp2_with fail
        clear d1 e1 e2 hji
        obtain ⟨p, hp⟩ : ∃ p, p = some (⟨b, o, none⟩ : Addr) := ⟨_, rfl⟩
        rw [← hp] at HS HSl HRd H Hc HA ⊢
        clear hp hb
        have HL1 : Hid (j ≤ zs.length) := Lib.hid hj
        have hjc : j ≤ cap := by omega
        obtain ⟨u6, hu6⟩ : ∃ u, u = Go.sliced p 0 j cap 1 := ⟨_, rfl⟩
        obtain ⟨u14, hu14⟩ : ∃ u, u = Go.sliced p j zs.length cap 1 := ⟨_, rfl⟩
        have hs6 := (HSl 0 j (by omega)).out
        rw [Nat.zero_add, List.drop_zero, ← hu6] at hs6
        have hs14 := (HSl j (zs.length - j) (by omega)).out
        rw [Nat.add_sub_cancel' hj, List.take_of_length_le (by rw [List.length_drop]; omega), ← hu14] at hs14
        have S6 := Lib.hid hs6
        have S14 := Lib.hid hs14
        have HIns : Hid (zs.take j ++ [m] ++ zs.drop j = insS zs m) := Lib.hid (by unfold insS; rw [HK.out]; simp)
        clear hs6 hs14 HSl c0 c1
        refine region_till (fun x => x.cell? ⟨w.heap.size, 0, none⟩ = some (.int .i64 e) ∧ x.cell? ⟨w.heap.size, 1, none⟩ = some (.slice p zs.length cap)) 17 (by kernel_rfl) ?_
        obtain ⟨wd, hwd⟩ : ∃ x, x = wr.drew := ⟨_, rfl⟩
        have HB : Hid (Below wr.heap.size wr wd) := Lib.hid (by rw [hwd]; exact (Below.refl _ _).drew)
        have d0 := HS.out _ HB.out
        rw [← hwd]
        clear hwd
        apply Till.take (i := 0) [0, 1, 16, 17]
        · simp only [List.getElem?_toArray, List.getElem?_cons_zero]
          rfl
        · kernel_rfl
        · kernel_rfl
        · kernel_rfl
        · kernel_rfl
        · exact fun _ _ _ h => h
        · first
            | exact Or.inr ⟨by rfl, rfl⟩
            | (refine Or.inl ⟨by rfl, fun wq hwq => ?_⟩
               dsimp only at hwq
               go_simp
               first
                 | done
                 | rfl)
        · exact d0
        simp only [Act.put, List.setIfInBounds_toArray, List.set_cons_zero, List.set_cons_succ]
        apply Till.take (i := 1) [1, 16, 17]
        · simp only [List.getElem?_toArray, List.getElem?_cons_succ, List.getElem?_cons_zero]
          rfl
        · kernel_rfl
        · kernel_rfl
        · kernel_rfl
        · kernel_rfl
        · exact fun _ _ _ h => h
        · first
            | exact Or.inr ⟨by rfl, rfl⟩
            | (refine Or.inl ⟨by rfl, fun wq hwq => ?_⟩
               dsimp only at hwq
               go_simp
               first
                 | done
                 | rfl)
        · exact d0
        simp only [Act.put, List.setIfInBounds_toArray, List.set_cons_zero, List.set_cons_succ]
        apply Till.take (i := 3) [3, 4, 6, 7, 10, 15, 16, 17]
        · simp only [List.getElem?_toArray, List.getElem?_cons_succ, List.getElem?_cons_zero]
          rfl
        · kernel_rfl
        · kernel_rfl
        · kernel_rfl
        · kernel_rfl
        · exact fun _ _ _ h => h
        · first
            | exact Or.inr ⟨by rfl, rfl⟩
            | (refine Or.inl ⟨by rfl, fun wq hwq => ?_⟩
               dsimp only at hwq
               go_simp
               first
                 | done
                 | rfl)
        · exact d0
        simp only [Act.put, List.setIfInBounds_toArray, List.set_cons_zero, List.set_cons_succ]
        apply Till.take (i := 4) [4, 6, 7, 10, 15, 16, 17]
        · simp only [List.getElem?_toArray, List.getElem?_cons_succ, List.getElem?_cons_zero]
          rfl
        · kernel_rfl
        · kernel_rfl
        · kernel_rfl
        · kernel_rfl
        · exact fun _ _ _ h => h
        · first
            | exact Or.inr ⟨by rfl, rfl⟩
            | (refine Or.inl ⟨by rfl, fun wq hwq => ?_⟩
               dsimp only at hwq
               go_simp
               first
                 | done
                 | rfl)
        · exact d0
        simp only [Act.put, List.setIfInBounds_toArray, List.set_cons_zero, List.set_cons_succ]
        apply Till.take (i := 5) [5, 6, 7, 10, 15, 16, 17]
        · simp only [List.getElem?_toArray, List.getElem?_cons_succ, List.getElem?_cons_zero]
          rfl
        · kernel_rfl
        · kernel_rfl
        · kernel_rfl
        · kernel_rfl
        · exact fun _ _ _ h => h
        · first
            | exact Or.inr ⟨by rfl, rfl⟩
            | (refine Or.inl ⟨by rfl, fun wq hwq => ?_⟩
               dsimp only at hwq
               go_simp
               first
                 | done
                 | rfl)
        · exact d0
        simp only [Act.put, List.setIfInBounds_toArray, List.set_cons_zero, List.set_cons_succ]
        apply Till.take (i := 6) (v := Go.sliced p 0 j cap 1) [6, 7, 10, 15, 16, 17]
        · simp only [List.getElem?_toArray, List.getElem?_cons_succ, List.getElem?_cons_zero]
          rfl
        · kernel_rfl
        · kernel_rfl
        · kernel_rfl
        · kernel_rfl
        · exact fun _ _ _ h => h
        · refine Or.inl ⟨by rfl, fun _ _ => ?_⟩
          exact run_slice_op_h _ 24 _ 3 i0 Try.underlying24 Hhi.out hz1 (n := j) _ rfl rfl rfl hjc
        · exact d0
        simp only [Act.put, List.setIfInBounds_toArray, List.set_cons_zero, List.set_cons_succ]
        rw [← hu6]
        apply Till.take (i := 8) [8, 9, 10, 15, 16, 17]
        · simp only [List.getElem?_toArray, List.getElem?_cons_succ, List.getElem?_cons_zero]
          rfl
        · kernel_rfl
        · kernel_rfl
        · kernel_rfl
        · kernel_rfl
        · exact fun _ _ _ h => h
        · first
            | exact Or.inr ⟨by rfl, rfl⟩
            | (refine Or.inl ⟨by rfl, fun wq hwq => ?_⟩
               dsimp only at hwq
               go_simp
               first
                 | done
                 | rfl)
        · exact d0
        simp only [Act.put, List.setIfInBounds_toArray, List.set_cons_zero, List.set_cons_succ]
        apply Till.take (i := 11) [11, 12, 14, 15, 16, 17]
        · simp only [List.getElem?_toArray, List.getElem?_cons_succ, List.getElem?_cons_zero]
          rfl
        · kernel_rfl
        · kernel_rfl
        · kernel_rfl
        · kernel_rfl
        · exact fun _ _ _ h => h
        · first
            | exact Or.inr ⟨by rfl, rfl⟩
            | (refine Or.inl ⟨by rfl, fun wq hwq => ?_⟩
               dsimp only at hwq
               go_simp
               first
                 | done
                 | rfl)
        · exact d0
        simp only [Act.put, List.setIfInBounds_toArray, List.set_cons_zero, List.set_cons_succ]
        apply Till.take (i := 12) [12, 14, 15, 16, 17]
        · simp only [List.getElem?_toArray, List.getElem?_cons_succ, List.getElem?_cons_zero]
          rfl
        · kernel_rfl
        · kernel_rfl
        · kernel_rfl
        · kernel_rfl
        · exact fun _ _ _ h => h
        · first
            | exact Or.inr ⟨by rfl, rfl⟩
            | (refine Or.inl ⟨by rfl, fun wq hwq => ?_⟩
               dsimp only at hwq
               go_simp
               first
                 | done
                 | rfl)
        · exact d0
        simp only [Act.put, List.setIfInBounds_toArray, List.set_cons_zero, List.set_cons_succ]
        apply Till.take (i := 13) [13, 14, 15, 16, 17]
        · simp only [List.getElem?_toArray, List.getElem?_cons_succ, List.getElem?_cons_zero]
          rfl
        · kernel_rfl
        · kernel_rfl
        · kernel_rfl
        · kernel_rfl
        · exact fun _ _ _ h => h
        · first
            | exact Or.inr ⟨by rfl, rfl⟩
            | (refine Or.inl ⟨by rfl, fun wq hwq => ?_⟩
               dsimp only at hwq
               go_simp
               first
                 | done
                 | rfl)
        · exact d0
        simp only [Act.put, List.setIfInBounds_toArray, List.set_cons_zero, List.set_cons_succ]
        apply Till.take (i := 14) (v := Go.sliced p j zs.length cap 1) [14, 15, 16, 17]
        · simp only [List.getElem?_toArray, List.getElem?_cons_succ, List.getElem?_cons_zero]
          rfl
        · kernel_rfl
        · kernel_rfl
        · kernel_rfl
        · kernel_rfl
        · exact fun _ _ _ h => h
        · refine Or.inl ⟨by rfl, fun _ _ => ?_⟩
          exact run_slice_op_l _ 24 _ 3 i0 Try.underlying24 Hhi.out hz1 (n := j) _ rfl rfl rfl hj
        · exact d0
        simp only [Act.put, List.setIfInBounds_toArray, List.set_cons_zero, List.set_cons_succ]
        rw [← hu14]
        clear hu6 hu14 hjc
        apply Till.two (i := 2) (j := 9)
        · kernel_rfl
        · simp only [List.getElem?_toArray, List.getElem?_cons_succ, List.getElem?_cons_zero]
          rfl
        · simp only [List.getElem?_toArray, List.getElem?_cons_succ, List.getElem?_cons_zero]
          rfl
        · intro K0 hK
          go_simp
          have hB := HB.out.alloc HB.out.size (.cells #[] 3)
          have d1 := HS.out _ hB
          have HO1 := Lib.hid (Own.lit (w := wd) (B := wr.heap.size) 3 .i64 HB.out.size)
          replace HB := Lib.hid hB
          clear hB d0
          have d0 := d1
          clear d1
          have HSz : Hid (wd.heap.size < (wd.alloc (.cells #[] 3)).heap.size) := Lib.hid (by rw [World.size_alloc]; omega)
          refine hK.out _ _ (Or.inr d0) ?_
          clear hK K0
          try simp only [Act.put, List.setIfInBounds_toArray, List.set_cons_zero, List.set_cons_succ]
          obtain ⟨w2, hw2⟩ : ∃ x, x = wd.alloc (.cells #[] 3) := ⟨_, rfl⟩
          rw [← hw2] at HB d0 HO1 HSz ⊢
          clear hw2
          apply Till.two (i := 7) (j := 9)
          · kernel_rfl
          · simp only [List.getElem?_toArray, List.getElem?_cons_succ, List.getElem?_cons_zero]
            rfl
          · simp only [List.getElem?_toArray, List.getElem?_cons_succ, List.getElem?_cons_zero]
            rfl
          · intro K0 hK
            refine step_append_rds _ (by rfl) _ _ 24 (by rfl) 3 i0 (.int .i64 0) 8 Try.underlying24 Hhi.out hz0 hz1 hz2 rfl (by omega) (by rfl) HO1.out (by rfl) (S6.out.behind (HB.out.mono HLm.out)) (by have := HN.out; have := HL1.out; simp only [List.length_nil, List.length_take]; omega) ?_
            intro v7 w7 hO hg
            have hB := HB.out.trans ((HO1.out).below (Nat.le_refl _) hg)
            have d1 := HS.out _ hB
            replace HB := Lib.hid hB
            have HO7 := Lib.hid (show Own 3 .i64 wr.heap.size w7 v7 (zs.take j) from hO)
            clear hO hg hB d0
            have d0 := d1
            clear d1
            refine hK.out _ _ (Or.inr d0) ?_
            clear hK K0
            try simp only [Act.put, List.setIfInBounds_toArray, List.set_cons_zero, List.set_cons_succ]
            apply Till.one (i := 9)
            · kernel_rfl
            · simp only [List.getElem?_toArray, List.getElem?_cons_succ, List.getElem?_cons_zero]
              rfl
            intro K hK
            go_simp
            have hB := HB.out.alloc HB.out.size (.cells #[.int .i64 m] 3)
            have d1 := HS.out _ hB
            have HR1 := Lib.hid (Own.one (w := w7) (B := wr.heap.size) 3 .i64 HB.out.size HMw.out)
            have HO7b := Lib.hid (HO7.out.alloc (.cells #[.int .i64 m] 3))
            replace HB := Lib.hid hB
            clear hB d0
            have d0 := d1
            clear d1
            refine hK.out _ _ (Or.inr d0) ?_
            clear hK K
            try simp only [Act.put, List.setIfInBounds_toArray, List.set_cons_zero, List.set_cons_succ]
            obtain ⟨w9, hw9⟩ : ∃ x, x = w7.alloc (.cells #[.int .i64 m] 3) := ⟨_, rfl⟩
            rw [← hw9] at HB d0 HR1 HO7b ⊢
            clear hw9
            apply Till.one (i := 10)
            · kernel_rfl
            · simp only [List.getElem?_toArray, List.getElem?_cons_succ, List.getElem?_cons_zero]
              rfl
            intro K hK
            refine step_append_rds _ (by rfl) _ _ 24 (by rfl) 3 i0 (.int .i64 0) 8 Try.underlying24 Hhi.out hz0 hz1 hz2 rfl (by omega) (by rfl) HO7b.out (by rfl) HR1.out.rd (by have := HN.out; have := HL1.out; simp only [List.length_cons, List.length_nil, List.length_take]; omega) ?_
            intro v10 w10 hO hg
            have hB := HB.out.trans ((HO7b.out).below (Nat.le_refl _) hg)
            have d1 := HS.out _ hB
            replace HB := Lib.hid hB
            have HO10 := Lib.hid (show Own 3 .i64 wr.heap.size w10 v10 (zs.take j ++ [m]) from hO)
            clear hO hg hB d0
            have d0 := d1
            clear d1
            refine hK.out _ _ (Or.inr d0) ?_
            clear hK K
            try simp only [Act.put, List.setIfInBounds_toArray, List.set_cons_zero, List.set_cons_succ]
            apply Till.one (i := 15)
            · kernel_rfl
            · simp only [List.getElem?_toArray, List.getElem?_cons_succ, List.getElem?_cons_zero]
              rfl
            intro K hK
            refine step_append_rds _ (by rfl) _ _ 24 (by rfl) 3 i0 (.int .i64 0) 8 Try.underlying24 Hhi.out hz0 hz1 hz2 rfl (by omega) (by rfl) HO10.out (by rfl) (S14.out.behind (HB.out.mono HLm.out)) (by have := HN.out; have := HL1.out; simp only [List.length_cons, List.length_nil, List.length_append, List.length_take, List.length_drop]; omega) ?_
            intro v15 w15 hO hg
            have hB := HB.out.trans ((HO10.out).below (Nat.le_refl _) hg)
            have d1 := HS.out _ hB
            replace HB := Lib.hid hB
            have HO0 := Lib.hid (show Own 3 .i64 wr.heap.size w15 v15 (zs.take j ++ [m] ++ zs.drop j) from hO)
            clear hO hg hB d0
            have d0 := d1
            clear d1
            rw [HIns.out] at HO0
            obtain ⟨a3, c3, hv, _⟩ := HO0.out.open
            subst hv
            obtain ⟨nl, hnl⟩ : ∃ x, x = (insS zs m).length := ⟨_, rfl⟩
            have HO : Hid (Own 3 .i64 wr.heap.size w15 (.slice a3 nl c3) (insS zs m)) := Lib.hid (by rw [hnl]; exact HO0.out)
            rw [← hnl]
            clear HO0 hnl
            refine hK.out _ _ (Or.inr d0) ?_
            clear hK K
            try simp only [Act.put, List.setIfInBounds_toArray, List.set_cons_zero, List.set_cons_succ]
            apply Till.take (i := 16) [16, 17]
            · simp only [List.getElem?_toArray, List.getElem?_cons_succ, List.getElem?_cons_zero]
              rfl
            · kernel_rfl
            · kernel_rfl
            · kernel_rfl
            · kernel_rfl
            · exact fun _ _ _ h => h
            · first
                | exact Or.inr ⟨by rfl, rfl⟩
                | (refine Or.inl ⟨by rfl, fun wq hwq => ?_⟩
                   dsimp only at hwq
                   go_simp
                   first
                     | done
                     | rfl)
            · exact d0
            simp only [Act.put, List.setIfInBounds_toArray, List.set_cons_zero, List.set_cons_succ]
            have hCc := (HB.out.block _ HLt.out).trans HC.out
            obtain ⟨q0, q1, f0, f1⟩ := scs hCc
            obtain ⟨k9, g9⟩ := sst hCc (.int .i64 e) (.slice a3 nl c3)
            obtain ⟨r0, r1, _⟩ := scs k9
            have hB9 := (HB0.out.trans (HB.out.mono HB0.out.size)).grown g9 (HB0.out.trans (HB.out.mono HB0.out.size)).size (fun k hk => by injection hk with hk; omega)
            have hO9 := HO.out.kept g9 (Or.inr (fun hh => by have := (HO.out.lt _ hh).1; have := HLt.out; omega))
            have HB9 := Lib.hid hB9
            have HO9 := Lib.hid (hO9.mono HB0.out.size)
            clear k9 g9 hCc hB9 hO9
            apply Till.one (i := 17)
            · kernel_rfl
            · simp only [List.getElem?_toArray, List.getElem?_cons_succ, List.getElem?_cons_zero]
              rfl
            intro K hK
            go_simp
            skip
            refine hK.out _ _ (Or.inl (by rfl)) ?_
            clear hK K
            try simp only [Act.put, List.setIfInBounds_toArray, List.set_cons_zero, List.set_cons_succ]
            refine Till.done (by kernel_rfl) ?_ _
            go_wp2_with fail
            exact bodyPost_ret (v := .agg #[.int .i64 e, .slice a3 nl c3]) (by simp [results, Try.results55, go_sem, r0, r1]) rfl ⟨_, rfl, HO9.out, HB9.out⟩
          · intro K0 hK
            go_simp
            have hB := HB.out.alloc HB.out.size (.cells #[.int .i64 m] 3)
            have d1 := HS.out _ hB
            have HR1 := Lib.hid (Own.one (w := w2) (B := wr.heap.size) 3 .i64 HB.out.size HMw.out)
            have HO1b := Lib.hid (HO1.out.alloc (.cells #[.int .i64 m] 3))
            replace HB := Lib.hid hB
            clear hB d0
            have d0 := d1
            clear d1
            refine hK.out _ _ (Or.inr d0) ?_
            clear hK K0
            try simp only [Act.put, List.setIfInBounds_toArray, List.set_cons_zero, List.set_cons_succ]
            have HAp : Hid (Apart (.slice (some ⟨w2.heap.size, 0, none⟩) 1 1) (.slice (some ⟨wd.heap.size, 0, none⟩) 0 0)) := Lib.hid (fun r h1 h2 => by simp only [Value.ownBlock, Option.some.injEq] at h1 h2; have := HSz.out; omega)
            obtain ⟨w9, hw9⟩ : ∃ x, x = w2.alloc (.cells #[.int .i64 m] 3) := ⟨_, rfl⟩
            rw [← hw9] at HB d0 HR1 HO1b ⊢
            clear hw9
            apply Till.one (i := 7)
            · kernel_rfl
            · simp only [List.getElem?_toArray, List.getElem?_cons_succ, List.getElem?_cons_zero]
              rfl
            intro K hK
            refine step_append_rds _ (by rfl) _ _ 24 (by rfl) 3 i0 (.int .i64 0) 8 Try.underlying24 Hhi.out hz0 hz1 hz2 rfl (by omega) (by rfl) HO1b.out (by rfl) (S6.out.behind (HB.out.mono HLm.out)) (by have := HN.out; have := HL1.out; simp only [List.length_nil, List.length_take]; omega) ?_
            intro v7 w7 hO hg
            have hB := HB.out.trans ((HO1b.out).below (Nat.le_refl _) hg)
            have d1 := HS.out _ hB
            replace HB := Lib.hid hB
            have HR2 := Lib.hid (HR1.out.beside HAp.out hg)
            have HO7 := Lib.hid (show Own 3 .i64 wr.heap.size w7 v7 (zs.take j) from hO)
            clear hO hg hB d0
            have d0 := d1
            clear d1
            refine hK.out _ _ (Or.inr d0) ?_
            clear hK K
            try simp only [Act.put, List.setIfInBounds_toArray, List.set_cons_zero, List.set_cons_succ]
            apply Till.one (i := 10)
            · kernel_rfl
            · simp only [List.getElem?_toArray, List.getElem?_cons_succ, List.getElem?_cons_zero]
              rfl
            intro K hK
            refine step_append_rds _ (by rfl) _ _ 24 (by rfl) 3 i0 (.int .i64 0) 8 Try.underlying24 Hhi.out hz0 hz1 hz2 rfl (by omega) (by rfl) HO7.out (by rfl) HR2.out.rd (by have := HN.out; have := HL1.out; simp only [List.length_cons, List.length_nil, List.length_take]; omega) ?_
            intro v10 w10 hO hg
            have hB := HB.out.trans ((HO7.out).below (Nat.le_refl _) hg)
            have d1 := HS.out _ hB
            replace HB := Lib.hid hB
            have HO10 := Lib.hid (show Own 3 .i64 wr.heap.size w10 v10 (zs.take j ++ [m]) from hO)
            clear hO hg hB d0
            have d0 := d1
            clear d1
            refine hK.out _ _ (Or.inr d0) ?_
            clear hK K
            try simp only [Act.put, List.setIfInBounds_toArray, List.set_cons_zero, List.set_cons_succ]
            apply Till.one (i := 15)
            · kernel_rfl
            · simp only [List.getElem?_toArray, List.getElem?_cons_succ, List.getElem?_cons_zero]
              rfl
            intro K hK
            refine step_append_rds _ (by rfl) _ _ 24 (by rfl) 3 i0 (.int .i64 0) 8 Try.underlying24 Hhi.out hz0 hz1 hz2 rfl (by omega) (by rfl) HO10.out (by rfl) (S14.out.behind (HB.out.mono HLm.out)) (by have := HN.out; have := HL1.out; simp only [List.length_cons, List.length_nil, List.length_append, List.length_take, List.length_drop]; omega) ?_
            intro v15 w15 hO hg
            have hB := HB.out.trans ((HO10.out).below (Nat.le_refl _) hg)
            have d1 := HS.out _ hB
            replace HB := Lib.hid hB
            have HO0 := Lib.hid (show Own 3 .i64 wr.heap.size w15 v15 (zs.take j ++ [m] ++ zs.drop j) from hO)
            clear hO hg hB d0
            have d0 := d1
            clear d1
            rw [HIns.out] at HO0
            obtain ⟨a3, c3, hv, _⟩ := HO0.out.open
            subst hv
            obtain ⟨nl, hnl⟩ : ∃ x, x = (insS zs m).length := ⟨_, rfl⟩
            have HO : Hid (Own 3 .i64 wr.heap.size w15 (.slice a3 nl c3) (insS zs m)) := Lib.hid (by rw [hnl]; exact HO0.out)
            rw [← hnl]
            clear HO0 hnl
            refine hK.out _ _ (Or.inr d0) ?_
            clear hK K
            try simp only [Act.put, List.setIfInBounds_toArray, List.set_cons_zero, List.set_cons_succ]
            apply Till.take (i := 16) [16, 17]
            · simp only [List.getElem?_toArray, List.getElem?_cons_succ, List.getElem?_cons_zero]
              rfl
            · kernel_rfl
            · kernel_rfl
            · kernel_rfl
            · kernel_rfl
            · exact fun _ _ _ h => h
            · first
                | exact Or.inr ⟨by rfl, rfl⟩
                | (refine Or.inl ⟨by rfl, fun wq hwq => ?_⟩
                   dsimp only at hwq
                   go_simp
                   first
                     | done
                     | rfl)
            · exact d0
            simp only [Act.put, List.setIfInBounds_toArray, List.set_cons_zero, List.set_cons_succ]
            have hCc := (HB.out.block _ HLt.out).trans HC.out
            obtain ⟨q0, q1, f0, f1⟩ := scs hCc
            obtain ⟨k9, g9⟩ := sst hCc (.int .i64 e) (.slice a3 nl c3)
            obtain ⟨r0, r1, _⟩ := scs k9
            have hB9 := (HB0.out.trans (HB.out.mono HB0.out.size)).grown g9 (HB0.out.trans (HB.out.mono HB0.out.size)).size (fun k hk => by injection hk with hk; omega)
            have hO9 := HO.out.kept g9 (Or.inr (fun hh => by have := (HO.out.lt _ hh).1; have := HLt.out; omega))
            have HB9 := Lib.hid hB9
            have HO9 := Lib.hid (hO9.mono HB0.out.size)
            clear k9 g9 hCc hB9 hO9
            apply Till.one (i := 17)
            · kernel_rfl
            · simp only [List.getElem?_toArray, List.getElem?_cons_succ, List.getElem?_cons_zero]
              rfl
            intro K hK
            go_simp
            skip
            refine hK.out _ _ (Or.inl (by rfl)) ?_
            clear hK K
            try simp only [Act.put, List.setIfInBounds_toArray, List.set_cons_zero, List.set_cons_succ]
            refine Till.done (by kernel_rfl) ?_ _
            go_wp2_with fail
            exact bodyPost_ret (v := .agg #[.int .i64 e, .slice a3 nl c3]) (by simp [results, Try.results55, go_sem, r0, r1]) rfl ⟨_, rfl, HO9.out, HB9.out⟩
        · intro K0 hK
          go_simp
          have hB := HB.out.alloc HB.out.size (.cells #[.int .i64 m] 3)
          have d1 := HS.out _ hB
          have HR1 := Lib.hid (Own.one (w := wd) (B := wr.heap.size) 3 .i64 HB.out.size HMw.out)
          replace HB := Lib.hid hB
          clear hB d0
          have d0 := d1
          clear d1
          have HSz : Hid (wd.heap.size < (wd.alloc (.cells #[.int .i64 m] 3)).heap.size) := Lib.hid (by rw [World.size_alloc]; omega)
          refine hK.out _ _ (Or.inr d0) ?_
          clear hK K0
          try simp only [Act.put, List.setIfInBounds_toArray, List.set_cons_zero, List.set_cons_succ]
          obtain ⟨w9, hw9⟩ : ∃ x, x = wd.alloc (.cells #[.int .i64 m] 3) := ⟨_, rfl⟩
          rw [← hw9] at HB d0 HR1 HSz ⊢
          clear hw9
          apply Till.one (i := 2)
          · kernel_rfl
          · simp only [List.getElem?_toArray, List.getElem?_cons_succ, List.getElem?_cons_zero]
            rfl
          intro K hK
          go_simp
          have hB := HB.out.alloc HB.out.size (.cells #[] 3)
          have d1 := HS.out _ hB
          have HO1 := Lib.hid (Own.lit (w := w9) (B := wr.heap.size) 3 .i64 HB.out.size)
          have HR1b := Lib.hid (HR1.out.next ((Below.refl _ _).alloc (Nat.le_refl _) (.cells #[] 3)))
          replace HB := Lib.hid hB
          clear hB d0
          have d0 := d1
          clear d1
          refine hK.out _ _ (Or.inr d0) ?_
          clear hK K
          try simp only [Act.put, List.setIfInBounds_toArray, List.set_cons_zero, List.set_cons_succ]
          have HAp : Hid (Apart (.slice (some ⟨wd.heap.size, 0, none⟩) 1 1) (.slice (some ⟨w9.heap.size, 0, none⟩) 0 0)) := Lib.hid (fun r h1 h2 => by simp only [Value.ownBlock, Option.some.injEq] at h1 h2; have := HSz.out; omega)
          obtain ⟨w2, hw2⟩ : ∃ x, x = w9.alloc (.cells #[] 3) := ⟨_, rfl⟩
          rw [← hw2] at HB d0 HO1 HR1b ⊢
          clear hw2
          clear HR1
          have HR1 := HR1b
          clear HR1b
          apply Till.one (i := 7)
          · kernel_rfl
          · simp only [List.getElem?_toArray, List.getElem?_cons_succ, List.getElem?_cons_zero]
            rfl
          intro K hK
          refine step_append_rds _ (by rfl) _ _ 24 (by rfl) 3 i0 (.int .i64 0) 8 Try.underlying24 Hhi.out hz0 hz1 hz2 rfl (by omega) (by rfl) HO1.out (by rfl) (S6.out.behind (HB.out.mono HLm.out)) (by have := HN.out; have := HL1.out; simp only [List.length_nil, List.length_take]; omega) ?_
          intro v7 w7 hO hg
          have hB := HB.out.trans ((HO1.out).below (Nat.le_refl _) hg)
          have d1 := HS.out _ hB
          replace HB := Lib.hid hB
          have HR2 := Lib.hid (HR1.out.beside HAp.out hg)
          have HO7 := Lib.hid (show Own 3 .i64 wr.heap.size w7 v7 (zs.take j) from hO)
          clear hO hg hB d0
          have d0 := d1
          clear d1
          refine hK.out _ _ (Or.inr d0) ?_
          clear hK K
          try simp only [Act.put, List.setIfInBounds_toArray, List.set_cons_zero, List.set_cons_succ]
          apply Till.one (i := 10)
          · kernel_rfl
          · simp only [List.getElem?_toArray, List.getElem?_cons_succ, List.getElem?_cons_zero]
            rfl
          intro K hK
          refine step_append_rds _ (by rfl) _ _ 24 (by rfl) 3 i0 (.int .i64 0) 8 Try.underlying24 Hhi.out hz0 hz1 hz2 rfl (by omega) (by rfl) HO7.out (by rfl) HR2.out.rd (by have := HN.out; have := HL1.out; simp only [List.length_cons, List.length_nil, List.length_take]; omega) ?_
          intro v10 w10 hO hg
          have hB := HB.out.trans ((HO7.out).below (Nat.le_refl _) hg)
          have d1 := HS.out _ hB
          replace HB := Lib.hid hB
          have HO10 := Lib.hid (show Own 3 .i64 wr.heap.size w10 v10 (zs.take j ++ [m]) from hO)
          clear hO hg hB d0
          have d0 := d1
          clear d1
          refine hK.out _ _ (Or.inr d0) ?_
          clear hK K
          try simp only [Act.put, List.setIfInBounds_toArray, List.set_cons_zero, List.set_cons_succ]
          apply Till.one (i := 15)
          · kernel_rfl
          · simp only [List.getElem?_toArray, List.getElem?_cons_succ, List.getElem?_cons_zero]
            rfl
          intro K hK
          refine step_append_rds _ (by rfl) _ _ 24 (by rfl) 3 i0 (.int .i64 0) 8 Try.underlying24 Hhi.out hz0 hz1 hz2 rfl (by omega) (by rfl) HO10.out (by rfl) (S14.out.behind (HB.out.mono HLm.out)) (by have := HN.out; have := HL1.out; simp only [List.length_cons, List.length_nil, List.length_append, List.length_take, List.length_drop]; omega) ?_
          intro v15 w15 hO hg
          have hB := HB.out.trans ((HO10.out).below (Nat.le_refl _) hg)
          have d1 := HS.out _ hB
          replace HB := Lib.hid hB
          have HO0 := Lib.hid (show Own 3 .i64 wr.heap.size w15 v15 (zs.take j ++ [m] ++ zs.drop j) from hO)
          clear hO hg hB d0
          have d0 := d1
          clear d1
          rw [HIns.out] at HO0
          obtain ⟨a3, c3, hv, _⟩ := HO0.out.open
          subst hv
          obtain ⟨nl, hnl⟩ : ∃ x, x = (insS zs m).length := ⟨_, rfl⟩
          have HO : Hid (Own 3 .i64 wr.heap.size w15 (.slice a3 nl c3) (insS zs m)) := Lib.hid (by rw [hnl]; exact HO0.out)
          rw [← hnl]
          clear HO0 hnl
          refine hK.out _ _ (Or.inr d0) ?_
          clear hK K
          try simp only [Act.put, List.setIfInBounds_toArray, List.set_cons_zero, List.set_cons_succ]
          apply Till.take (i := 16) [16, 17]
          · simp only [List.getElem?_toArray, List.getElem?_cons_succ, List.getElem?_cons_zero]
            rfl
          · kernel_rfl
          · kernel_rfl
          · kernel_rfl
          · kernel_rfl
          · exact fun _ _ _ h => h
          · first
              | exact Or.inr ⟨by rfl, rfl⟩
              | (refine Or.inl ⟨by rfl, fun wq hwq => ?_⟩
                 dsimp only at hwq
                 go_simp
                 first
                   | done
                   | rfl)
          · exact d0
          simp only [Act.put, List.setIfInBounds_toArray, List.set_cons_zero, List.set_cons_succ]
          have hCc := (HB.out.block _ HLt.out).trans HC.out
          obtain ⟨q0, q1, f0, f1⟩ := scs hCc
          obtain ⟨k9, g9⟩ := sst hCc (.int .i64 e) (.slice a3 nl c3)
          obtain ⟨r0, r1, _⟩ := scs k9
          have hB9 := (HB0.out.trans (HB.out.mono HB0.out.size)).grown g9 (HB0.out.trans (HB.out.mono HB0.out.size)).size (fun k hk => by injection hk with hk; omega)
          have hO9 := HO.out.kept g9 (Or.inr (fun hh => by have := (HO.out.lt _ hh).1; have := HLt.out; omega))
          have HB9 := Lib.hid hB9
          have HO9 := Lib.hid (hO9.mono HB0.out.size)
          clear k9 g9 hCc hB9 hO9
          apply Till.one (i := 17)
          · kernel_rfl
          · simp only [List.getElem?_toArray, List.getElem?_cons_succ, List.getElem?_cons_zero]
            rfl
          intro K hK
          go_simp
          skip
          refine hK.out _ _ (Or.inl (by rfl)) ?_
          clear hK K
          try simp only [Act.put, List.setIfInBounds_toArray, List.set_cons_zero, List.set_cons_succ]
          refine Till.done (by kernel_rfl) ?_ _
          go_wp2_with fail
          exact bodyPost_ret (v := .agg #[.int .i64 e, .slice a3 nl c3]) (by simp [results, Try.results55, go_sem, r0, r1]) rfl ⟨_, rfl, HO9.out, HB9.out⟩
    case neg =>
      have e1 : decide ((j : Int) < (zs.length : Int)) = false := by simp; omega
      have HK : Hid (insK zs m = j) := Lib.hid (insK_is hj HLo.out (fun h => absurd h hlt))
      go_wp2_with fail
      clear e1
      have HL1 : Hid (j ≤ zs.length) := Lib.hid hj
      have hjc : j ≤ cap := by omega
      obtain ⟨u6, hu6⟩ : ∃ u, u = Go.sliced p 0 j cap 1 := ⟨_, rfl⟩
      obtain ⟨u14, hu14⟩ : ∃ u, u = Go.sliced p j zs.length cap 1 := ⟨_, rfl⟩
      have hs6 := (HSl 0 j (by omega)).out
      rw [Nat.zero_add, List.drop_zero, ← hu6] at hs6
      have hs14 := (HSl j (zs.length - j) (by omega)).out
      rw [Nat.add_sub_cancel' hj, List.take_of_length_le (by rw [List.length_drop]; omega), ← hu14] at hs14
      have S6 := Lib.hid hs6
      have S14 := Lib.hid hs14
      have HIns : Hid (zs.take j ++ [m] ++ zs.drop j = insS zs m) := Lib.hid (by unfold insS; rw [HK.out]; simp)
      clear hs6 hs14 HSl c0 c1
      refine region_till (fun x => x.cell? ⟨w.heap.size, 0, none⟩ = some (.int .i64 e) ∧ x.cell? ⟨w.heap.size, 1, none⟩ = some (.slice p zs.length cap)) 17 (by kernel_rfl) ?_
      obtain ⟨wd, hwd⟩ : ∃ x, x = wr.drew := ⟨_, rfl⟩
      have HB : Hid (Below wr.heap.size wr wd) := Lib.hid (by rw [hwd]; exact (Below.refl _ _).drew)
      have d0 := HS.out _ HB.out
      rw [← hwd]
      clear hwd
      apply Till.take (i := 0) [0, 1, 16, 17]
      · simp only [List.getElem?_toArray, List.getElem?_cons_zero]
        rfl
      · kernel_rfl
      · kernel_rfl
      · kernel_rfl
      · kernel_rfl
      · exact fun _ _ _ h => h
      · first
          | exact Or.inr ⟨by rfl, rfl⟩
          | (refine Or.inl ⟨by rfl, fun wq hwq => ?_⟩
             dsimp only at hwq
             go_simp
             first
               | done
               | rfl)
      · exact d0
      simp only [Act.put, List.setIfInBounds_toArray, List.set_cons_zero, List.set_cons_succ]
      apply Till.take (i := 1) [1, 16, 17]
      · simp only [List.getElem?_toArray, List.getElem?_cons_succ, List.getElem?_cons_zero]
        rfl
      · kernel_rfl
      · kernel_rfl
      · kernel_rfl
      · kernel_rfl
      · exact fun _ _ _ h => h
      · first
          | exact Or.inr ⟨by rfl, rfl⟩
          | (refine Or.inl ⟨by rfl, fun wq hwq => ?_⟩
             dsimp only at hwq
             go_simp
             first
               | done
               | rfl)
      · exact d0
      simp only [Act.put, List.setIfInBounds_toArray, List.set_cons_zero, List.set_cons_succ]
      apply Till.take (i := 3) [3, 4, 6, 7, 10, 15, 16, 17]
      · simp only [List.getElem?_toArray, List.getElem?_cons_succ, List.getElem?_cons_zero]
        rfl
      · kernel_rfl
      · kernel_rfl
      · kernel_rfl
      · kernel_rfl
      · exact fun _ _ _ h => h
      · first
          | exact Or.inr ⟨by rfl, rfl⟩
          | (refine Or.inl ⟨by rfl, fun wq hwq => ?_⟩
             dsimp only at hwq
             go_simp
             first
               | done
               | rfl)
      · exact d0
      simp only [Act.put, List.setIfInBounds_toArray, List.set_cons_zero, List.set_cons_succ]
      apply Till.take (i := 4) [4, 6, 7, 10, 15, 16, 17]
      · simp only [List.getElem?_toArray, List.getElem?_cons_succ, List.getElem?_cons_zero]
        rfl
      · kernel_rfl
      · kernel_rfl
      · kernel_rfl
      · kernel_rfl
      · exact fun _ _ _ h => h
      · first
          | exact Or.inr ⟨by rfl, rfl⟩
          | (refine Or.inl ⟨by rfl, fun wq hwq => ?_⟩
             dsimp only at hwq
             go_simp
             first
               | done
               | rfl)
      · exact d0
      simp only [Act.put, List.setIfInBounds_toArray, List.set_cons_zero, List.set_cons_succ]
      apply Till.take (i := 5) [5, 6, 7, 10, 15, 16, 17]
      · simp only [List.getElem?_toArray, List.getElem?_cons_succ, List.getElem?_cons_zero]
        rfl
      · kernel_rfl
      · kernel_rfl
      · kernel_rfl
      · kernel_rfl
      · exact fun _ _ _ h => h
      · first
          | exact Or.inr ⟨by rfl, rfl⟩
          | (refine Or.inl ⟨by rfl, fun wq hwq => ?_⟩
             dsimp only at hwq
             go_simp
             first
               | done
               | rfl)
      · exact d0
      simp only [Act.put, List.setIfInBounds_toArray, List.set_cons_zero, List.set_cons_succ]
      apply Till.take (i := 6) (v := Go.sliced p 0 j cap 1) [6, 7, 10, 15, 16, 17]
      · simp only [List.getElem?_toArray, List.getElem?_cons_succ, List.getElem?_cons_zero]
        rfl
      · kernel_rfl
      · kernel_rfl
      · kernel_rfl
      · kernel_rfl
      · exact fun _ _ _ h => h
      · refine Or.inl ⟨by rfl, fun _ _ => ?_⟩
        exact run_slice_op_h _ 24 _ 3 i0 Try.underlying24 Hhi.out hz1 (n := j) _ rfl rfl rfl hjc
      · exact d0
      simp only [Act.put, List.setIfInBounds_toArray, List.set_cons_zero, List.set_cons_succ]
      rw [← hu6]
      apply Till.take (i := 8) [8, 9, 10, 15, 16, 17]
      · simp only [List.getElem?_toArray, List.getElem?_cons_succ, List.getElem?_cons_zero]
        rfl
      · kernel_rfl
      · kernel_rfl
      · kernel_rfl
      · kernel_rfl
      · exact fun _ _ _ h => h
      · first
          | exact Or.inr ⟨by rfl, rfl⟩
          | (refine Or.inl ⟨by rfl, fun wq hwq => ?_⟩
             dsimp only at hwq
             go_simp
             first
               | done
               | rfl)
      · exact d0
      simp only [Act.put, List.setIfInBounds_toArray, List.set_cons_zero, List.set_cons_succ]
      apply Till.take (i := 11) [11, 12, 14, 15, 16, 17]
      · simp only [List.getElem?_toArray, List.getElem?_cons_succ, List.getElem?_cons_zero]
        rfl
      · kernel_rfl
      · kernel_rfl
      · kernel_rfl
      · kernel_rfl
      · exact fun _ _ _ h => h
      · first
          | exact Or.inr ⟨by rfl, rfl⟩
          | (refine Or.inl ⟨by rfl, fun wq hwq => ?_⟩
             dsimp only at hwq
             go_simp
             first
               | done
               | rfl)
      · exact d0
      simp only [Act.put, List.setIfInBounds_toArray, List.set_cons_zero, List.set_cons_succ]
      apply Till.take (i := 12) [12, 14, 15, 16, 17]
      · simp only [List.getElem?_toArray, List.getElem?_cons_succ, List.getElem?_cons_zero]
        rfl
      · kernel_rfl
      · kernel_rfl
      · kernel_rfl
      · kernel_rfl
      · exact fun _ _ _ h => h
      · first
          | exact Or.inr ⟨by rfl, rfl⟩
          | (refine Or.inl ⟨by rfl, fun wq hwq => ?_⟩
             dsimp only at hwq
             go_simp
             first
               | done
               | rfl)
      · exact d0
      simp only [Act.put, List.setIfInBounds_toArray, List.set_cons_zero, List.set_cons_succ]
      apply Till.take (i := 13) [13, 14, 15, 16, 17]
      · simp only [List.getElem?_toArray, List.getElem?_cons_succ, List.getElem?_cons_zero]
        rfl
      · kernel_rfl
      · kernel_rfl
      · kernel_rfl
      · kernel_rfl
      · exact fun _ _ _ h => h
      · first
          | exact Or.inr ⟨by rfl, rfl⟩
          | (refine Or.inl ⟨by rfl, fun wq hwq => ?_⟩
             dsimp only at hwq
             go_simp
             first
               | done
               | rfl)
      · exact d0
      simp only [Act.put, List.setIfInBounds_toArray, List.set_cons_zero, List.set_cons_succ]
      apply Till.take (i := 14) (v := Go.sliced p j zs.length cap 1) [14, 15, 16, 17]
      · simp only [List.getElem?_toArray, List.getElem?_cons_succ, List.getElem?_cons_zero]
        rfl
      · kernel_rfl
      · kernel_rfl
      · kernel_rfl
      · kernel_rfl
      · exact fun _ _ _ h => h
      · refine Or.inl ⟨by rfl, fun _ _ => ?_⟩
        exact run_slice_op_l _ 24 _ 3 i0 Try.underlying24 Hhi.out hz1 (n := j) _ rfl rfl rfl hj
      · exact d0
      simp only [Act.put, List.setIfInBounds_toArray, List.set_cons_zero, List.set_cons_succ]
      rw [← hu14]
      clear hu6 hu14 hjc
      apply Till.two (i := 2) (j := 9)
      · kernel_rfl
      · simp only [List.getElem?_toArray, List.getElem?_cons_succ, List.getElem?_cons_zero]
        rfl
      · simp only [List.getElem?_toArray, List.getElem?_cons_succ, List.getElem?_cons_zero]
        rfl
      · intro K0 hK
        go_simp
        have hB := HB.out.alloc HB.out.size (.cells #[] 3)
        have d1 := HS.out _ hB
        have HO1 := Lib.hid (Own.lit (w := wd) (B := wr.heap.size) 3 .i64 HB.out.size)
        replace HB := Lib.hid hB
        clear hB d0
        have d0 := d1
        clear d1
        have HSz : Hid (wd.heap.size < (wd.alloc (.cells #[] 3)).heap.size) := Lib.hid (by rw [World.size_alloc]; omega)
        refine hK.out _ _ (Or.inr d0) ?_
        clear hK K0
        try simp only [Act.put, List.setIfInBounds_toArray, List.set_cons_zero, List.set_cons_succ]
        obtain ⟨w2, hw2⟩ : ∃ x, x = wd.alloc (.cells #[] 3) := ⟨_, rfl⟩
        rw [← hw2] at HB d0 HO1 HSz ⊢
        clear hw2
        apply Till.two (i := 7) (j := 9)
        · kernel_rfl
        · simp only [List.getElem?_toArray, List.getElem?_cons_succ, List.getElem?_cons_zero]
          rfl
        · simp only [List.getElem?_toArray, List.getElem?_cons_succ, List.getElem?_cons_zero]
          rfl
        · intro K0 hK
          refine step_append_rds _ (by rfl) _ _ 24 (by rfl) 3 i0 (.int .i64 0) 8 Try.underlying24 Hhi.out hz0 hz1 hz2 rfl (by omega) (by rfl) HO1.out (by rfl) (S6.out.behind (HB.out.mono HLm.out)) (by have := HN.out; have := HL1.out; simp only [List.length_nil, List.length_take]; omega) ?_
          intro v7 w7 hO hg
          have hB := HB.out.trans ((HO1.out).below (Nat.le_refl _) hg)
          have d1 := HS.out _ hB
          replace HB := Lib.hid hB
          have HO7 := Lib.hid (show Own 3 .i64 wr.heap.size w7 v7 (zs.take j) from hO)
          clear hO hg hB d0
          have d0 := d1
          clear d1
          refine hK.out _ _ (Or.inr d0) ?_
          clear hK K0
          try simp only [Act.put, List.setIfInBounds_toArray, List.set_cons_zero, List.set_cons_succ]
          apply Till.one (i := 9)
          · kernel_rfl
          · simp only [List.getElem?_toArray, List.getElem?_cons_succ, List.getElem?_cons_zero]
            rfl
          intro K hK
          go_simp
          have hB := HB.out.alloc HB.out.size (.cells #[.int .i64 m] 3)
          have d1 := HS.out _ hB
          have HR1 := Lib.hid (Own.one (w := w7) (B := wr.heap.size) 3 .i64 HB.out.size HMw.out)
          have HO7b := Lib.hid (HO7.out.alloc (.cells #[.int .i64 m] 3))
          replace HB := Lib.hid hB
          clear hB d0
          have d0 := d1
          clear d1
          refine hK.out _ _ (Or.inr d0) ?_
          clear hK K
          try simp only [Act.put, List.setIfInBounds_toArray, List.set_cons_zero, List.set_cons_succ]
          obtain ⟨w9, hw9⟩ : ∃ x, x = w7.alloc (.cells #[.int .i64 m] 3) := ⟨_, rfl⟩
          rw [← hw9] at HB d0 HR1 HO7b ⊢
          clear hw9
          apply Till.one (i := 10)
          · kernel_rfl
          · simp only [List.getElem?_toArray, List.getElem?_cons_succ, List.getElem?_cons_zero]
            rfl
          intro K hK
          refine step_append_rds _ (by rfl) _ _ 24 (by rfl) 3 i0 (.int .i64 0) 8 Try.underlying24 Hhi.out hz0 hz1 hz2 rfl (by omega) (by rfl) HO7b.out (by rfl) HR1.out.rd (by have := HN.out; have := HL1.out; simp only [List.length_cons, List.length_nil, List.length_take]; omega) ?_
          intro v10 w10 hO hg
          have hB := HB.out.trans ((HO7b.out).below (Nat.le_refl _) hg)
          have d1 := HS.out _ hB
          replace HB := Lib.hid hB
          have HO10 := Lib.hid (show Own 3 .i64 wr.heap.size w10 v10 (zs.take j ++ [m]) from hO)
          clear hO hg hB d0
          have d0 := d1
          clear d1
          refine hK.out _ _ (Or.inr d0) ?_
          clear hK K
          try simp only [Act.put, List.setIfInBounds_toArray, List.set_cons_zero, List.set_cons_succ]
          apply Till.one (i := 15)
          · kernel_rfl
          · simp only [List.getElem?_toArray, List.getElem?_cons_succ, List.getElem?_cons_zero]
            rfl
          intro K hK
          refine step_append_rds _ (by rfl) _ _ 24 (by rfl) 3 i0 (.int .i64 0) 8 Try.underlying24 Hhi.out hz0 hz1 hz2 rfl (by omega) (by rfl) HO10.out (by rfl) (S14.out.behind (HB.out.mono HLm.out)) (by have := HN.out; have := HL1.out; simp only [List.length_cons, List.length_nil, List.length_append, List.length_take, List.length_drop]; omega) ?_
          intro v15 w15 hO hg
          have hB := HB.out.trans ((HO10.out).below (Nat.le_refl _) hg)
          have d1 := HS.out _ hB
          replace HB := Lib.hid hB
          have HO0 := Lib.hid (show Own 3 .i64 wr.heap.size w15 v15 (zs.take j ++ [m] ++ zs.drop j) from hO)
          clear hO hg hB d0
          have d0 := d1
          clear d1
          rw [HIns.out] at HO0
          obtain ⟨a3, c3, hv, _⟩ := HO0.out.open
          subst hv
          obtain ⟨nl, hnl⟩ : ∃ x, x = (insS zs m).length := ⟨_, rfl⟩
          have HO : Hid (Own 3 .i64 wr.heap.size w15 (.slice a3 nl c3) (insS zs m)) := Lib.hid (by rw [hnl]; exact HO0.out)
          rw [← hnl]
          clear HO0 hnl
          refine hK.out _ _ (Or.inr d0) ?_
          clear hK K
          try simp only [Act.put, List.setIfInBounds_toArray, List.set_cons_zero, List.set_cons_succ]
          apply Till.take (i := 16) [16, 17]
          · simp only [List.getElem?_toArray, List.getElem?_cons_succ, List.getElem?_cons_zero]
            rfl
          · kernel_rfl
          · kernel_rfl
          · kernel_rfl
          · kernel_rfl
          · exact fun _ _ _ h => h
          · first
              | exact Or.inr ⟨by rfl, rfl⟩
              | (refine Or.inl ⟨by rfl, fun wq hwq => ?_⟩
                 dsimp only at hwq
                 go_simp
                 first
                   | done
                   | rfl)
          · exact d0
          simp only [Act.put, List.setIfInBounds_toArray, List.set_cons_zero, List.set_cons_succ]
          have hCc := (HB.out.block _ HLt.out).trans HC.out
          obtain ⟨q0, q1, f0, f1⟩ := scs hCc
          obtain ⟨k9, g9⟩ := sst hCc (.int .i64 e) (.slice a3 nl c3)
          obtain ⟨r0, r1, _⟩ := scs k9
          have hB9 := (HB0.out.trans (HB.out.mono HB0.out.size)).grown g9 (HB0.out.trans (HB.out.mono HB0.out.size)).size (fun k hk => by injection hk with hk; omega)
          have hO9 := HO.out.kept g9 (Or.inr (fun hh => by have := (HO.out.lt _ hh).1; have := HLt.out; omega))
          have HB9 := Lib.hid hB9
          have HO9 := Lib.hid (hO9.mono HB0.out.size)
          clear k9 g9 hCc hB9 hO9
          apply Till.one (i := 17)
          · kernel_rfl
          · simp only [List.getElem?_toArray, List.getElem?_cons_succ, List.getElem?_cons_zero]
            rfl
          intro K hK
          go_simp
          skip
          refine hK.out _ _ (Or.inl (by rfl)) ?_
          clear hK K
          try simp only [Act.put, List.setIfInBounds_toArray, List.set_cons_zero, List.set_cons_succ]
          refine Till.done (by kernel_rfl) ?_ _
          go_wp2_with fail
          exact bodyPost_ret (v := .agg #[.int .i64 e, .slice a3 nl c3]) (by simp [results, Try.results55, go_sem, r0, r1]) rfl ⟨_, rfl, HO9.out, HB9.out⟩
        · intro K0 hK
          go_simp
          have hB := HB.out.alloc HB.out.size (.cells #[.int .i64 m] 3)
          have d1 := HS.out _ hB
          have HR1 := Lib.hid (Own.one (w := w2) (B := wr.heap.size) 3 .i64 HB.out.size HMw.out)
          have HO1b := Lib.hid (HO1.out.alloc (.cells #[.int .i64 m] 3))
          replace HB := Lib.hid hB
          clear hB d0
          have d0 := d1
          clear d1
          refine hK.out _ _ (Or.inr d0) ?_
          clear hK K0
          try simp only [Act.put, List.setIfInBounds_toArray, List.set_cons_zero, List.set_cons_succ]
          have HAp : Hid (Apart (.slice (some ⟨w2.heap.size, 0, none⟩) 1 1) (.slice (some ⟨wd.heap.size, 0, none⟩) 0 0)) := Lib.hid (fun r h1 h2 => by simp only [Value.ownBlock, Option.some.injEq] at h1 h2; have := HSz.out; omega)
          obtain ⟨w9, hw9⟩ : ∃ x, x = w2.alloc (.cells #[.int .i64 m] 3) := ⟨_, rfl⟩
          rw [← hw9] at HB d0 HR1 HO1b ⊢
          clear hw9
          apply Till.one (i := 7)
          · kernel_rfl
          · simp only [List.getElem?_toArray, List.getElem?_cons_succ, List.getElem?_cons_zero]
            rfl
          intro K hK
          refine step_append_rds _ (by rfl) _ _ 24 (by rfl) 3 i0 (.int .i64 0) 8 Try.underlying24 Hhi.out hz0 hz1 hz2 rfl (by omega) (by rfl) HO1b.out (by rfl) (S6.out.behind (HB.out.mono HLm.out)) (by have := HN.out; have := HL1.out; simp only [List.length_nil, List.length_take]; omega) ?_
          intro v7 w7 hO hg
          have hB := HB.out.trans ((HO1b.out).below (Nat.le_refl _) hg)
          have d1 := HS.out _ hB
          replace HB := Lib.hid hB
          have HR2 := Lib.hid (HR1.out.beside HAp.out hg)
          have HO7 := Lib.hid (show Own 3 .i64 wr.heap.size w7 v7 (zs.take j) from hO)
          clear hO hg hB d0
          have d0 := d1
          clear d1
          refine hK.out _ _ (Or.inr d0) ?_
          clear hK K
          try simp only [Act.put, List.setIfInBounds_toArray, List.set_cons_zero, List.set_cons_succ]
          apply Till.one (i := 10)
          · kernel_rfl
          · simp only [List.getElem?_toArray, List.getElem?_cons_succ, List.getElem?_cons_zero]
            rfl
          intro K hK
          refine step_append_rds _ (by rfl) _ _ 24 (by rfl) 3 i0 (.int .i64 0) 8 Try.underlying24 Hhi.out hz0 hz1 hz2 rfl (by omega) (by rfl) HO7.out (by rfl) HR2.out.rd (by have := HN.out; have := HL1.out; simp only [List.length_cons, List.length_nil, List.length_take]; omega) ?_
          intro v10 w10 hO hg
          have hB := HB.out.trans ((HO7.out).below (Nat.le_refl _) hg)
          have d1 := HS.out _ hB
          replace HB := Lib.hid hB
          have HO10 := Lib.hid (show Own 3 .i64 wr.heap.size w10 v10 (zs.take j ++ [m]) from hO)
          clear hO hg hB d0
          have d0 := d1
          clear d1
          refine hK.out _ _ (Or.inr d0) ?_
          clear hK K
          try simp only [Act.put, List.setIfInBounds_toArray, List.set_cons_zero, List.set_cons_succ]
          apply Till.one (i := 15)
          · kernel_rfl
          · simp only [List.getElem?_toArray, List.getElem?_cons_succ, List.getElem?_cons_zero]
            rfl
          intro K hK
          refine step_append_rds _ (by rfl) _ _ 24 (by rfl) 3 i0 (.int .i64 0) 8 Try.underlying24 Hhi.out hz0 hz1 hz2 rfl (by omega) (by rfl) HO10.out (by rfl) (S14.out.behind (HB.out.mono HLm.out)) (by have := HN.out; have := HL1.out; simp only [List.length_cons, List.length_nil, List.length_append, List.length_take, List.length_drop]; omega) ?_
          intro v15 w15 hO hg
          have hB := HB.out.trans ((HO10.out).below (Nat.le_refl _) hg)
          have d1 := HS.out _ hB
          replace HB := Lib.hid hB
          have HO0 := Lib.hid (show Own 3 .i64 wr.heap.size w15 v15 (zs.take j ++ [m] ++ zs.drop j) from hO)
          clear hO hg hB d0
          have d0 := d1
          clear d1
          rw [HIns.out] at HO0
          obtain ⟨a3, c3, hv, _⟩ := HO0.out.open
          subst hv
          obtain ⟨nl, hnl⟩ : ∃ x, x = (insS zs m).length := ⟨_, rfl⟩
          have HO : Hid (Own 3 .i64 wr.heap.size w15 (.slice a3 nl c3) (insS zs m)) := Lib.hid (by rw [hnl]; exact HO0.out)
          rw [← hnl]
          clear HO0 hnl
          refine hK.out _ _ (Or.inr d0) ?_
          clear hK K
          try simp only [Act.put, List.setIfInBounds_toArray, List.set_cons_zero, List.set_cons_succ]
          apply Till.take (i := 16) [16, 17]
          · simp only [List.getElem?_toArray, List.getElem?_cons_succ, List.getElem?_cons_zero]
            rfl
          · kernel_rfl
          · kernel_rfl
          · kernel_rfl
          · kernel_rfl
          · exact fun _ _ _ h => h
          · first
              | exact Or.inr ⟨by rfl, rfl⟩
              | (refine Or.inl ⟨by rfl, fun wq hwq => ?_⟩
                 dsimp only at hwq
                 go_simp
                 first
                   | done
                   | rfl)
          · exact d0
          simp only [Act.put, List.setIfInBounds_toArray, List.set_cons_zero, List.set_cons_succ]
          have hCc := (HB.out.block _ HLt.out).trans HC.out
          obtain ⟨q0, q1, f0, f1⟩ := scs hCc
          obtain ⟨k9, g9⟩ := sst hCc (.int .i64 e) (.slice a3 nl c3)
          obtain ⟨r0, r1, _⟩ := scs k9
          have hB9 := (HB0.out.trans (HB.out.mono HB0.out.size)).grown g9 (HB0.out.trans (HB.out.mono HB0.out.size)).size (fun k hk => by injection hk with hk; omega)
          have hO9 := HO.out.kept g9 (Or.inr (fun hh => by have := (HO.out.lt _ hh).1; have := HLt.out; omega))
          have HB9 := Lib.hid hB9
          have HO9 := Lib.hid (hO9.mono HB0.out.size)
          clear k9 g9 hCc hB9 hO9
          apply Till.one (i := 17)
          · kernel_rfl
          · simp only [List.getElem?_toArray, List.getElem?_cons_succ, List.getElem?_cons_zero]
            rfl
          intro K hK
          go_simp
          skip
          refine hK.out _ _ (Or.inl (by rfl)) ?_
          clear hK K
          try simp only [Act.put, List.setIfInBounds_toArray, List.set_cons_zero, List.set_cons_succ]
          refine Till.done (by kernel_rfl) ?_ _
          go_wp2_with fail
          exact bodyPost_ret (v := .agg #[.int .i64 e, .slice a3 nl c3]) (by simp [results, Try.results55, go_sem, r0, r1]) rfl ⟨_, rfl, HO9.out, HB9.out⟩
      · intro K0 hK
        go_simp
        have hB := HB.out.alloc HB.out.size (.cells #[.int .i64 m] 3)
        have d1 := HS.out _ hB
        have HR1 := Lib.hid (Own.one (w := wd) (B := wr.heap.size) 3 .i64 HB.out.size HMw.out)
        replace HB := Lib.hid hB
        clear hB d0
        have d0 := d1
        clear d1
        have HSz : Hid (wd.heap.size < (wd.alloc (.cells #[.int .i64 m] 3)).heap.size) := Lib.hid (by rw [World.size_alloc]; omega)
        refine hK.out _ _ (Or.inr d0) ?_
        clear hK K0
        try simp only [Act.put, List.setIfInBounds_toArray, List.set_cons_zero, List.set_cons_succ]
        obtain ⟨w9, hw9⟩ : ∃ x, x = wd.alloc (.cells #[.int .i64 m] 3) := ⟨_, rfl⟩
        rw [← hw9] at HB d0 HR1 HSz ⊢
        clear hw9
        apply Till.one (i := 2)
        · kernel_rfl
        · simp only [List.getElem?_toArray, List.getElem?_cons_succ, List.getElem?_cons_zero]
          rfl
        intro K hK
        go_simp
        have hB := HB.out.alloc HB.out.size (.cells #[] 3)
        have d1 := HS.out _ hB
        have HO1 := Lib.hid (Own.lit (w := w9) (B := wr.heap.size) 3 .i64 HB.out.size)
        have HR1b := Lib.hid (HR1.out.next ((Below.refl _ _).alloc (Nat.le_refl _) (.cells #[] 3)))
        replace HB := Lib.hid hB
        clear hB d0
        have d0 := d1
        clear d1
        refine hK.out _ _ (Or.inr d0) ?_
        clear hK K
        try simp only [Act.put, List.setIfInBounds_toArray, List.set_cons_zero, List.set_cons_succ]
        have HAp : Hid (Apart (.slice (some ⟨wd.heap.size, 0, none⟩) 1 1) (.slice (some ⟨w9.heap.size, 0, none⟩) 0 0)) := Lib.hid (fun r h1 h2 => by simp only [Value.ownBlock, Option.some.injEq] at h1 h2; have := HSz.out; omega)
        obtain ⟨w2, hw2⟩ : ∃ x, x = w9.alloc (.cells #[] 3) := ⟨_, rfl⟩
        rw [← hw2] at HB d0 HO1 HR1b ⊢
        clear hw2
        clear HR1
        have HR1 := HR1b
        clear HR1b
        apply Till.one (i := 7)
        · kernel_rfl
        · simp only [List.getElem?_toArray, List.getElem?_cons_succ, List.getElem?_cons_zero]
          rfl
        intro K hK
        refine step_append_rds _ (by rfl) _ _ 24 (by rfl) 3 i0 (.int .i64 0) 8 Try.underlying24 Hhi.out hz0 hz1 hz2 rfl (by omega) (by rfl) HO1.out (by rfl) (S6.out.behind (HB.out.mono HLm.out)) (by have := HN.out; have := HL1.out; simp only [List.length_nil, List.length_take]; omega) ?_
        intro v7 w7 hO hg
        have hB := HB.out.trans ((HO1.out).below (Nat.le_refl _) hg)
        have d1 := HS.out _ hB
        replace HB := Lib.hid hB
        have HR2 := Lib.hid (HR1.out.beside HAp.out hg)
        have HO7 := Lib.hid (show Own 3 .i64 wr.heap.size w7 v7 (zs.take j) from hO)
        clear hO hg hB d0
        have d0 := d1
        clear d1
        refine hK.out _ _ (Or.inr d0) ?_
        clear hK K
        try simp only [Act.put, List.setIfInBounds_toArray, List.set_cons_zero, List.set_cons_succ]
        apply Till.one (i := 10)
        · kernel_rfl
        · simp only [List.getElem?_toArray, List.getElem?_cons_succ, List.getElem?_cons_zero]
          rfl
        intro K hK
        refine step_append_rds _ (by rfl) _ _ 24 (by rfl) 3 i0 (.int .i64 0) 8 Try.underlying24 Hhi.out hz0 hz1 hz2 rfl (by omega) (by rfl) HO7.out (by rfl) HR2.out.rd (by have := HN.out; have := HL1.out; simp only [List.length_cons, List.length_nil, List.length_take]; omega) ?_
        intro v10 w10 hO hg
        have hB := HB.out.trans ((HO7.out).below (Nat.le_refl _) hg)
        have d1 := HS.out _ hB
        replace HB := Lib.hid hB
        have HO10 := Lib.hid (show Own 3 .i64 wr.heap.size w10 v10 (zs.take j ++ [m]) from hO)
        clear hO hg hB d0
        have d0 := d1
        clear d1
        refine hK.out _ _ (Or.inr d0) ?_
        clear hK K
        try simp only [Act.put, List.setIfInBounds_toArray, List.set_cons_zero, List.set_cons_succ]
        apply Till.one (i := 15)
        · kernel_rfl
        · simp only [List.getElem?_toArray, List.getElem?_cons_succ, List.getElem?_cons_zero]
          rfl
        intro K hK
        refine step_append_rds _ (by rfl) _ _ 24 (by rfl) 3 i0 (.int .i64 0) 8 Try.underlying24 Hhi.out hz0 hz1 hz2 rfl (by omega) (by rfl) HO10.out (by rfl) (S14.out.behind (HB.out.mono HLm.out)) (by have := HN.out; have := HL1.out; simp only [List.length_cons, List.length_nil, List.length_append, List.length_take, List.length_drop]; omega) ?_
        intro v15 w15 hO hg
        have hB := HB.out.trans ((HO10.out).below (Nat.le_refl _) hg)
        have d1 := HS.out _ hB
        replace HB := Lib.hid hB
        have HO0 := Lib.hid (show Own 3 .i64 wr.heap.size w15 v15 (zs.take j ++ [m] ++ zs.drop j) from hO)
        clear hO hg hB d0
        have d0 := d1
        clear d1
        rw [HIns.out] at HO0
        obtain ⟨a3, c3, hv, _⟩ := HO0.out.open
        subst hv
        obtain ⟨nl, hnl⟩ : ∃ x, x = (insS zs m).length := ⟨_, rfl⟩
        have HO : Hid (Own 3 .i64 wr.heap.size w15 (.slice a3 nl c3) (insS zs m)) := Lib.hid (by rw [hnl]; exact HO0.out)
        rw [← hnl]
        clear HO0 hnl
        refine hK.out _ _ (Or.inr d0) ?_
        clear hK K
        try simp only [Act.put, List.setIfInBounds_toArray, List.set_cons_zero, List.set_cons_succ]
        apply Till.take (i := 16) [16, 17]
        · simp only [List.getElem?_toArray, List.getElem?_cons_succ, List.getElem?_cons_zero]
          rfl
        · kernel_rfl
        · kernel_rfl
        · kernel_rfl
        · kernel_rfl
        · exact fun _ _ _ h => h
        · first
            | exact Or.inr ⟨by rfl, rfl⟩
            | (refine Or.inl ⟨by rfl, fun wq hwq => ?_⟩
               dsimp only at hwq
               go_simp
               first
                 | done
                 | rfl)
        · exact d0
        simp only [Act.put, List.setIfInBounds_toArray, List.set_cons_zero, List.set_cons_succ]
        have hCc := (HB.out.block _ HLt.out).trans HC.out
        obtain ⟨q0, q1, f0, f1⟩ := scs hCc
        obtain ⟨k9, g9⟩ := sst hCc (.int .i64 e) (.slice a3 nl c3)
        obtain ⟨r0, r1, _⟩ := scs k9
        have hB9 := (HB0.out.trans (HB.out.mono HB0.out.size)).grown g9 (HB0.out.trans (HB.out.mono HB0.out.size)).size (fun k hk => by injection hk with hk; omega)
        have hO9 := HO.out.kept g9 (Or.inr (fun hh => by have := (HO.out.lt _ hh).1; have := HLt.out; omega))
        have HB9 := Lib.hid hB9
        have HO9 := Lib.hid (hO9.mono HB0.out.size)
        clear k9 g9 hCc hB9 hO9
        apply Till.one (i := 17)
        · kernel_rfl
        · simp only [List.getElem?_toArray, List.getElem?_cons_succ, List.getElem?_cons_zero]
          rfl
        intro K hK
        go_simp
        skip
        refine hK.out _ _ (Or.inl (by rfl)) ?_
        clear hK K
        try simp only [Act.put, List.setIfInBounds_toArray, List.set_cons_zero, List.set_cons_succ]
        refine Till.done (by kernel_rfl) ?_ _
        go_wp2_with fail
        exact bodyPost_ret (v := .agg #[.int .i64 e, .slice a3 nl c3]) (by simp [results, Try.results55, go_sem, r0, r1]) rfl ⟨_, rfl, HO9.out, HB9.out⟩

end Go.Proofs.Ytdlbpeippmibcaa


/-! Sp4 -/
namespace Go.Proofs.Ytdlbpeippmibcaa
open Go Go.RowKit Go.Maps Go.Sort
set_option linter.unusedVariables false
set_option maxRecDepth 20000
attribute [local irreducible] kh kid pwm tcm pw chl

/-- slices.Sort at a row of the call's own. -/
theorem sort_any {B : Nat} {w : World} {v : Value} {zs : List Int} (h : Own 3 .i64 B w v zs) (hl : zs.length < 4611686018427387904) :
    Calls Try.prog 80 #[v] w fun e w' => e = .returned (.tuple #[]) ∧ Own 3 .i64 B w' v (zs.mergeSort (fun x y => decide (x ≤ y))) ∧ w.grownBy w' v.ownBlock := by
  rcases Nat.eq_zero_or_pos zs.length with h0 | h0
  · obtain rfl : zs = [] := List.eq_nil_of_length_eq_zero h0
    have h' := h
    obtain ⟨a, cap, rfl, _⟩ := h.open
    refine (Try.slices_Sort_int_none a cap w).mono ?_
    rintro e w' ⟨he, rfl⟩
    exact ⟨he, by simpa using h', World.grownBy.refl _ _⟩
  · obtain ⟨g, cap, rfl, hH, hg, hB, hk⟩ := sort_own h h0
    refine (Try.slices_Sort_int g 0 cap zs w hH hg hl).mono ?_
    rintro e w' ⟨he, n, os, rfl⟩
    obtain ⟨k1, k2⟩ := hk n os (zs.mergeSort (fun x y => decide (x ≤ y))) (sort_len zs) (fun t ht => (List.mergeSort_perm zs _).mem_iff.1 ht)
    exact ⟨he, k1, k2⟩

/-- A step of a range over a set. -/
theorem wpList_next_set {P : Program} (w : World) {ops : Array Oper} {rest : List Oper} {o : Oper} {a : Act} {Q : Exit → Act → World → Prop} (hg : o.guard = none) (it : Operand) (hop : o.op = Op.next it false) (k e : TypeId) (K : Keyed P k) (hk : P.underlying k = some (.int .i64)) (he : P.underlying e = some .bool)
    (b r n : Nat) (D : DataW Unit) (hA : AllT D) (left : Lit → Bool) (cnt : Nat) (hit : a.eval it = .pointer (some ⟨r, 0, none⟩)) (h : w.ranges P k (plainElem P e) b r n D left cnt)
    (hDone : cnt = 0 → (∀ kl, left kl = false) → wpList P ops Q rest (a.put o.dst (.tuple #[.bool false])) w)
    (hMore : ∀ (x : Int) (w' : World) (cnt' : Nat), (Lit.int .i64 x).wf = true → left (.int .i64 x) = true → (∀ zd, D.atKey (.int .i64 x) zd = .lit (.bool true)) → w'.ranges P k (plainElem P e) b r n D (fun z => left z && !z.sameKey (.int .i64 x)) cnt' → cnt' < cnt →
      w.grownBy w' (some r) → (Instr.entry (.pointer (some ⟨r, 0, none⟩))).run P w' = .ok (.tuple #[.int .i64 x, .bool true]) w' → wpList P ops Q rest (a.put o.dst (.tuple #[.bool true, .int .i64 x, .bool true])) w') :
    wpList P ops Q (o :: rest) a w :=
  wpList_next_ranges w hg it hop k K (plainElem P e) (Value.int .i64) Value.bool (fun key kl hkey => by obtain ⟨x, rfl, _⟩ := Maps.keyOf_int_inv hk hkey; exact ⟨x, rfl⟩) (fun v y hv => by obtain ⟨c, rfl, _⟩ := plainElem_bool_inv he hv; exact ⟨c, rfl⟩)
    b r n D left cnt hit h hDone (fun x c kl y w' cnt' hkey hlk hv hat hrg hlt hgr hsz hen => by
      obtain ⟨x', ex, rfl, hwx⟩ := Maps.keyOf_int_inv hk hkey
      cases ex
      obtain ⟨c', ec, rfl⟩ := plainElem_bool_inv he hv
      cases ec
      have h1 := hA _ (has_true_of_atKey hat) .nil
      rw [hat .nil] at h1
      have hc : c = true := by injection h1 with h1; injection h1
      subst hc
      exact hMore x w' cnt' hwx hlk hat hrg hlt hgr hen)

set_option maxRecDepth 100000 in
set_option maxHeartbeats 4000000 in
/-- impl.listSpent -/
theorem impl_lsp {w : World} {e : Int} {b n : Nat} {D : DataW Unit} {L : List Int} (hown : w.ownsMap Try.prog 3 (plainElem (H := Unit) Try.prog 4) b n D) (hM : MapIs D L) (hA : AllT D) (hL : okSl L = true) (hn : L.length ≤ 1099511627776) :
    Calls Try.prog 52 #[.int .i64 e, .map (some b)] w fun x w' => ∃ v', x = .returned (.agg #[.int .i64 e, v']) ∧ Own 3 .i64 w.heap.size w' v' L ∧ Below w.heap.size w w' := by
  obtain ⟨i0, hi, hz0, hz1, hz2⟩ := info_parts infoi64
  have Hhi := Lib.hid hi
  have hK := heap_alloc_new w (.cells #[.int .i64 0, .slice none 0 0] 26)
  have hb0 := (Below.refl w.heap.size w).alloc (Nat.le_refl _) (.cells #[.int .i64 0, .slice none 0 0] 26)
  have hm0 := hown.alloc (.cells #[.int .i64 0, .slice none 0 0] 26)
  obtain ⟨W0, hW0⟩ : ∃ W, W = w.alloc (.cells #[.int .i64 0, .slice none 0 0] 26) := ⟨_, rfl⟩
  rw [← hW0] at hK hb0 hm0
  have HW0 := Lib.hid hW0
  have HK := Lib.hid hK
  have HB0 := Lib.hid hb0
  have HLt := Lib.hid (lt_of_block hK)
  have hbl := Nat.lt_of_lt_of_le hown.lt hb0.size
  have HBl := Lib.hid hbl
  obtain ⟨m, hm⟩ : ∃ m, m = Maps.size D := ⟨_, rfl⟩
  have hmb : m ≤ 1099511627776 := by rw [hm, hM.2.2]; exact hn
  have HMs := Lib.hid hm
  have HM0 := Lib.hid hm0
  have HMi := Lib.hid hM
  have HAl := Lib.hid hA
  have HLo := Lib.hid hL
  have HLn := Lib.hid hn
  clear hW0 hK hb0 hm0 hbl hown hm hM hA hL hi hn
  go_enter Try.func52, Try.ntmps52
  go_wp2_with (first
    | (at_len; rw [← HW0.out]; refine wpList_len_own _ rfl _ 66 rfl 3 4 Try.underlying66 _ b n _ rfl HM0.out ?_; rw [← HMs.out])
    | (at_make; refine wpList_make_own _ rfl _ _ 24 rfl W0.heap.size 3 i0 (.int .i64 0) 1 Try.underlying24 Hhi.out hz0 hz1 .i64 .i64 _ m rfl rfl rfl (by rw [hz2]; omega) (by unfold maxLen; omega) (Nat.le_refl _) ?_))
  intro w1 hrow1 hg1
  have hm1 := HM0.out.kept hg1 (by simp)
  have HM1 := Lib.hid hm1
  have HO1 : Hid (Own 3 .i64 W0.heap.size w1 (.slice (some ⟨W0.heap.size, 0, none⟩) 0 m) []) := Lib.hid ⟨by simp, hg1.size, hrow1⟩
  have HB1 := Lib.hid ((Below.refl W0.heap.size W0).grown hg1 (Nat.le_refl _) (fun k hk => by cases hk))
  clear hrow1 hg1 hm1
  go_wp2_with (first
    | (at_range; refine wpList_range_own _ rfl _ 66 rfl 3 4 lawInt Try.underlying66 _ b n _ rfl HM1.out ?_; intro w0 hrg0 hg0 hs0))
  have HR0 := Lib.hid hrg0
  have HO2 := Lib.hid (HO1.out.kept hg0 (Or.inr (by simp [Value.ownBlock])))
  have HB2 := Lib.hid (HB1.out.grown hg0 HB1.out.size (fun k hk => by cases hk))
  obtain ⟨r, hr⟩ : ∃ r, r = w1.heap.size := ⟨_, rfl⟩
  rw [← hr] at HR0 ⊢
  have HRg : Hid (W0.heap.size ≤ r) := Lib.hid (by rw [hr]; exact HB1.out.size)
  clear hrg0 hg0 hs0 HO1 HB1 HM1 hr
  go_frame
  go_loopw [5] (fun v wr => ∃ (left : Lit → Bool) (cnt : Nat) (ss : List Int), wr.ranges Try.prog 3 (plainElem (H := Unit) Try.prog 4) b r n D left cnt ∧ Own 3 .i64 W0.heap.size wr v ss ∧ CollI D left ss ∧ Below W0.heap.size W0 wr) (fun _ wr => wr.rangeLeft b r)
  case atStart => exact ⟨_, _, [], HR0.out, HO2.out, CollI.start D, HB2.out⟩
  case round =>
    obtain ⟨left, cnt, ss, hrg, hO, hC, hB⟩ := hrel
    have HR := Lib.hid hrg
    have HO := Lib.hid hO
    have HCo := Lib.hid hC
    have HB := Lib.hid hB
    clear hrg hO hC hB HO2 HB2 HR0
    go_wp2_with (first
      | (at_next; refine wpList_next_set _ rfl _ rfl 3 4 lawInt Try.underlying3 Try.underlying4 b r n _ HAl.out _ _ rfl HR.out ?_ ?_))
    · intro hc0 hl0
      have HEq : Hid (ss.mergeSort (fun x y => decide (x ≤ y)) = L) := Lib.hid (sorted_is HCo.out.1 (fun x => by rw [HCo.out.full hl0, HMi.out.2.1, memS_iff]) (okSl_iff.1 HLo.out).2)
      have HSl : Hid (ss.length ≤ L.length) := Lib.hid (nodup_len HCo.out.1 (fun x hx => by rw [← memS_iff, ← HMi.out.2.1, ← HCo.out.full hl0]; exact hx))
      clear hc0 hl0
      obtain ⟨a, c, rfl, _⟩ := HO.out.open
      go_wp2_with fail
      refine (sort_any HO.out (by have := HSl.out; have := HLn.out; omega)).mono ?_
      rw [HEq.out]
      rintro e' w3 ⟨rfl, hO, hg⟩
      have hB := HB.out.trans (HO.out.below (Nat.le_refl _) hg)
      have hk := (hB.block _ HLt.out).trans HK.out
      obtain ⟨q0, q1, f0, f1⟩ := scs hk
      obtain ⟨k9, g9⟩ := sst hk (.int .i64 e) (.slice a ss.length c)
      obtain ⟨r0, r1, _⟩ := scs k9
      have hB9 := (HB0.out.trans (hB.mono HB0.out.size)).grown g9 (HB0.out.trans (hB.mono HB0.out.size)).size (fun k hk => by injection hk with hk; omega)
      have hO9 := hO.kept g9 (Or.inr (fun hh => by have := (hO.lt _ hh).1; have := HLt.out; omega))
      have HB9 := Lib.hid hB9
      have HO9 := Lib.hid (hO9.mono HB0.out.size)
      clear k9 g9 hk hB9 hO9 hB hg hO
      go_wp2_with fail
      exact bodyPost_ret (v := .agg #[.int .i64 e, .slice a ss.length c]) (by simp [results, Try.results52, go_sem, r0, r1]) rfl ⟨_, rfl, HO9.out, HB9.out⟩
    · intro x w2 cnt2 hwx hlk hat hrg2 hlt hg2 hen
      have HC2 := Lib.hid (HCo.out.step hlk hat)
      have HSl : Hid ((ss ++ [x]).length ≤ L.length) := Lib.hid (HC2.out.len (fun y hy => by rw [← memS_iff, ← HMi.out.2.1]; exact hy))
      have hne := row_ne_iter HO.out.2.2 HR.out
      have HB2 := Lib.hid (HB.out.grown hg2 HB.out.size (fun k hk => by injection hk with hk; have := HRg.out; omega))
      have HO2 := Lib.hid (HO.out.kept hg2 (Or.inr hne.symm))
      have HR2 := Lib.hid hrg2
      have HLt2 := Lib.hid hlt
      have HX := Lib.hid hwx
      clear hlk hat hrg2 hlt hg2 hne hwx
      have R1 := Lib.hid (Rd.one 3 .i64 w2 x HX.out)
      have O1 := Lib.hid (HO2.out.alloc (.cells #[.int .i64 x] 3))
      have B1 := Lib.hid (HB2.out.alloc HB2.out.size (.cells #[.int .i64 x] 3))
      have R3 := Lib.hid (HR2.out.alloc (.cells #[.int .i64 x] 3))
      go_wp2_with (first | (at_builtin; refine append_rd _ rfl _ _ 24 rfl 3 i0 (.int .i64 0) 8 Try.underlying24 Hhi.out hz0 hz1 hz2 rfl (by omega) rfl O1.out rfl R1.out (by have := HSl.out; have := HLn.out; simp only [List.length_append, List.length_singleton] at *; omega) ?_))
      intro v3 w3 hO hg
      have HB3 := Lib.hid (B1.out.trans (O1.out.below (Nat.le_refl _) hg))
      have hR := R3.out.kept hg (row_ne_low O1.out.2.2 HBl.out) (row_ne_iter O1.out.2.2 R3.out)
      have HR3 := Lib.hid hR
      have HO3 := Lib.hid hO
      clear hO hg hR
      go_wp2_with fail
      go_roundw
      case rel => exact ⟨_, cnt2, ss ++ [x], HR3.out, HO3.out, HC2.out, HB3.out⟩
      case measure => rw [HR3.out.left_eq, HR.out.left_eq]; exact HLt2.out

end Go.Proofs.Ytdlbpeippmibcaa
