/- AnswerQuery, the program's and the document's: what each gives. No conditions but a size that a machine holds. -/
import Derived.Test.YtigeghmkkppldaaQuN
import Derived.Test.YtigeghmkkppldaaBbD
import Derived.Test.YtigeghmkkppldaaHeldL
import Derived.Test.YtigeghmkkppldaaSwap
import Derived.Test.YtigeghmkkppldaaBaM
import Derived.Test.YtigeghmkkppldaaSel2
import Derived.Test.YtigeghmkkppldaaSel5
import Derived.Deep.RegionHeld3
namespace Go.Proofs.Ytigeghmkkppldaa
open Go Go.RowKit
set_option linter.unusedVariables false
attribute [local irreducible] kh

theorem ansK_a {d : List (List Int)} {v : List Int} (h : vd d = false) : ansK d v = false := by unfold ansK; rw [h]; rfl
theorem ansK_b {d : List (List Int)} {v : List Int} (h : isel v (d.length : Int) = false) : ansK d v = false := by unfold ansK; rw [h, Bool.and_false]
theorem ansK_yes {d : List (List Int)} {v : List Int} (h : vd d = true) (h' : isel v (d.length : Int) = true) : ansK d v = true := by unfold ansK; rw [h, h']; rfl
/-- The row lies at or above B. -/
theorem Own.over {e : TypeId} {k : IntKind} {B : Nat} {w : World} {u : Value} {zs : List Int} (h : Own e k 0 w u zs) (hB : B ≤ w.heap.size) (hin : ∀ r, u.ownBlock = some r → B ≤ r) : Own e k B w u zs := by
  obtain ⟨hw, h1, h2, h3⟩ := h
  refine ⟨hw, hB, h2, ?_⟩
  rcases h3 with h3 | ⟨g, cap, cur, rfl, h5, h6⟩
  · exact .inl h3
  · exact .inr ⟨g, cap, cur, rfl, hin g rfl, h6⟩

set_option maxHeartbeats 4000000 in
/-- impl.AnswerQuery -/
theorem impl_ans {l1 l2 : Nat} {w : World} {u v : Value} {d : List (List Int)} {ys : List Int} (hu : Rd2 l1 .u8 w u d) (hv : Rd l2 .i64 w v ys) (hl1 : l1 ≤ w.heap.size) (hl2 : l2 ≤ w.heap.size) (hn : tot d ≤ 1099511627776) :
    Calls Try.prog 16 #[.agg #[u], v] w fun e w' => ∃ v', e = .returned v' ∧ Own 5 .u8 w.heap.size w' v' (ans d ys) ∧ Below w.heap.size w w' := by
  obtain ⟨i0, hi, hz0, hz1, hz2⟩ := info_parts infou8
  have Hhi := Lib.hid hi
  obtain ⟨a, cap, rfl, h1, h2, _⟩ := hu.open
  have HB := Lib.hid ((Below.refl w.heap.size w).alloc (Nat.le_refl _) (.cells #[.slice a d.length cap] 26))
  have HK := Lib.hid (heap_alloc_new w (.cells #[.slice a d.length cap] 26))
  have HU := Lib.hid hu
  have HV := Lib.hid hv
  have HN := Lib.hid hn
  have hzl : d.length ≤ 1099511627776 := by unfold tot at hn; omega
  have HWl : Hid ((Lit.int .i64 (d.length : Int)).wf = true) := Lib.hid (wf_i64_of (by omega) (by omega))
  unfold maxLen at h2
  obtain ⟨p, hp⟩ : ∃ p, p = vd d := ⟨_, rfl⟩
  obtain ⟨q, hq⟩ : ∃ q, q = isel ys (d.length : Int) := ⟨_, rfl⟩
  have Hp := Lib.hid hp
  have Hq := Lib.hid hq
  have HE : Hid (p = false → ans d ys = []) := Lib.hid (fun h => ans_no (ansK_a (by rw [← hp, h])))
  have HE' : Hid (q = false → ans d ys = []) := Lib.hid (fun h => ans_no (ansK_b (by rw [← hq, h])))
  have HY : Hid (p = true → q = true → ans d ys = xorl (List.replicate 24 0) (sx d ys)) := Lib.hid (fun h h' => ans_yes (ansK_yes (by rw [← hp, h]) (by rw [← hq, h'])))
  have HSl : Hid ((sx d ys).length ≤ 1099511627776) := Lib.hid (by have := sx_len d ys; unfold tot at hn; omega)
  obtain ⟨W0, hW0⟩ : ∃ W, W = w.alloc (.cells #[.slice a d.length cap] 26) := ⟨_, rfl⟩
  rw [← hW0] at HB HK
  have HW0 := Lib.hid hW0
  clear hu hv hn hi hp hq hW0
  cases p
  · replace HE := Lib.hid (HE.out rfl)
    go_enter Try.func16, Try.ntmps16
    have cD := blk_cell HK.out 0
    rw [one0, HW0.out] at cD
    go_wp2_with fail
    rw [← HW0.out]
    clear cD
    refine (impl_vd (HU.out.behind (HB.out.mono hl1)) (Nat.le_trans hl1 HB.out.size)).mono ?_
    rintro e w1 ⟨he, hb1⟩
    rw [← Hp.out] at he
    subst he
    replace HK := Lib.hid ((hb1.block w.heap.size (lt_of_block HK.out)).trans HK.out)
    replace HB := Lib.hid (HB.out.trans (hb1.mono HB.out.size))
    have cD := blk_cell HK.out 0
    rw [one0] at cD
    clear hb1
    go_wp2_with fail
    go_ret
    exact ⟨_, rfl, by rw [HE.out]; exact Own.lit _ _ HB.out.size, HB.out.alloc HB.out.size _⟩
  · cases q
    · replace HE' := Lib.hid (HE'.out rfl)
      go_enter Try.func16, Try.ntmps16
      have cD := blk_cell HK.out 0
      rw [one0, HW0.out] at cD
      go_wp2_with fail
      rw [← HW0.out]
      clear cD
      refine (impl_vd (HU.out.behind (HB.out.mono hl1)) (Nat.le_trans hl1 HB.out.size)).mono ?_
      rintro e w1 ⟨he, hb1⟩
      rw [← Hp.out] at he
      subst he
      replace HK := Lib.hid ((hb1.block w.heap.size (lt_of_block HK.out)).trans HK.out)
      replace HB := Lib.hid (HB.out.trans (hb1.mono HB.out.size))
      have cD := blk_cell HK.out 0
      rw [one0] at cD
      clear hb1
      go_wp2_with fail
      clear cD
      refine (impl_is (HV.out.behind (HB.out.mono hl2)) (Nat.le_trans hl2 HB.out.size) HWl.out).mono ?_
      rintro e w2 ⟨he, hw2⟩
      rw [← Hq.out] at he
      subst he
      replace HK := Lib.hid ((hw2.block w.heap.size (lt_of_block HK.out)).trans HK.out)
      replace HB := Lib.hid (HB.out.trans (hw2.mono HB.out.size))
      clear hw2
      have cD := blk_cell HK.out 0
      rw [one0] at cD
      go_wp2_with fail
      go_ret
      exact ⟨_, rfl, by rw [HE'.out]; exact Own.lit _ _ HB.out.size, HB.out.alloc HB.out.size _⟩
    · replace HY := Lib.hid (HY.out rfl rfl)
      go_enter Try.func16, Try.ntmps16
      have cD := blk_cell HK.out 0
      rw [one0, HW0.out] at cD
      go_wp2_with fail
      rw [← HW0.out]
      clear cD
      refine (impl_vd (HU.out.behind (HB.out.mono hl1)) (Nat.le_trans hl1 HB.out.size)).mono ?_
      rintro e w1 ⟨he, hb1⟩
      rw [← Hp.out] at he
      subst he
      replace HK := Lib.hid ((hb1.block w.heap.size (lt_of_block HK.out)).trans HK.out)
      replace HB := Lib.hid (HB.out.trans (hb1.mono HB.out.size))
      have cD := blk_cell HK.out 0
      rw [one0] at cD
      clear hb1
      go_wp2_with fail
      clear cD
      refine (impl_is (HV.out.behind (HB.out.mono hl2)) (Nat.le_trans hl2 HB.out.size) HWl.out).mono ?_
      rintro e w2 ⟨he, hw2⟩
      rw [← Hq.out] at he
      subst he
      replace HK := Lib.hid ((hw2.block w.heap.size (lt_of_block HK.out)).trans HK.out)
      replace HB := Lib.hid (HB.out.trans (hw2.mono HB.out.size))
      clear hw2
      have cD := blk_cell HK.out 0
      rw [one0] at cD
      obtain ⟨W, hW⟩ : ∃ W, W = w2.drew := ⟨_, rfl⟩
      have d0 : W.cell? ⟨w.heap.size, 0, none⟩ = some (.slice a d.length cap) := by rw [hW]; exact cD
      have HBw : Hid (Below w.heap.size w W) := Lib.hid (by rw [hW]; exact HB.out.drew)
      have HKs : Hid (w.heap.size < W.heap.size) := Lib.hid (by rw [hW]; exact lt_of_block HK.out)
      have HU0 : Hid (Rd2 l1 .u8 W (.slice a d.length cap) d) := Lib.hid (HU.out.behind (HBw.out.mono hl1))
      have HV0 : Hid (Rd l2 .i64 W v ys) := Lib.hid (HV.out.behind (HBw.out.mono hl2))
      have HL1 : Hid (l1 ≤ W.heap.size) := Lib.hid (Nat.le_trans hl1 HBw.out.size)
      have HL2 : Hid (l2 ≤ W.heap.size) := Lib.hid (Nat.le_trans hl2 HBw.out.size)
      go_wp2_with fail
      refine region_till (fun w' => w'.cell? ⟨w.heap.size, 0, none⟩ = some (.slice a d.length cap)) 5 (by kernel_rfl) ?_
      rw [← hW]
      clear hW
      apply Till.take (i := 1) [1, 2, 4, 5]
      · simp only [List.getElem?_toArray, List.getElem?_cons_succ, List.getElem?_cons_zero]
        rfl
      · kernel_rfl
      · kernel_rfl
      · kernel_rfl
      · kernel_rfl
      · exact fun _ _ _ h => h
      · first
          | exact Or.inr ⟨by rfl, rfl⟩
          | (refine Or.inl ⟨by rfl, fun wq hwq => ?_⟩
             dsimp only at hwq
             go_simp
             first
               | done
               | rfl)
      · exact d0
      simp only [Act.put, List.setIfInBounds_toArray, List.set_cons_zero, List.set_cons_succ]
      apply Till.take (i := 2) [2, 4, 5]
      · simp only [List.getElem?_toArray, List.getElem?_cons_succ, List.getElem?_cons_zero]
        rfl
      · kernel_rfl
      · kernel_rfl
      · kernel_rfl
      · kernel_rfl
      · exact fun _ _ _ h => h
      · first
          | exact Or.inr ⟨by rfl, rfl⟩
          | (refine Or.inl ⟨by rfl, fun wq hwq => ?_⟩
             dsimp only at hwq
             go_simp
             first
               | done
               | rfl)
      · exact d0
      simp only [Act.put, List.setIfInBounds_toArray, List.set_cons_zero, List.set_cons_succ]
      apply Till.take (i := 3) [3, 4, 5]
      · simp only [List.getElem?_toArray, List.getElem?_cons_succ, List.getElem?_cons_zero]
        rfl
      · kernel_rfl
      · kernel_rfl
      · kernel_rfl
      · kernel_rfl
      · exact fun _ _ _ h => h
      · first
          | exact Or.inr ⟨by rfl, rfl⟩
          | (refine Or.inl ⟨by rfl, fun wq hwq => ?_⟩
             dsimp only at hwq
             go_simp
             first
               | done
               | rfl)
      · exact d0
      simp only [Act.put, List.setIfInBounds_toArray, List.set_cons_zero, List.set_cons_succ]
      apply Till.two (i := 0) (j := 4)
      · kernel_rfl
      · simp only [List.getElem?_toArray, List.getElem?_cons_zero]
        rfl
      · simp only [List.getElem?_toArray, List.getElem?_cons_succ, List.getElem?_cons_zero]
        rfl
      · obtain ⟨w5, hrun, ho5, hg5⟩ := run_make_full (P := Try.prog) W W.heap.size 22 5 i0 (.int .u8 0) 1 Try.underlying22 Hhi.out hz0 hz1 .i64 .i64 24 (by rw [hz2]; omega) (by unfold maxLen; omega) (Nat.le_refl _)
        have hm5 : (Instr.makeSlice 22 (.int .i64 24) (.int .i64 24)).run Try.prog W = .ok (.slice (some ⟨W.heap.size, 0, none⟩) 24 24) w5 := hrun
        have hr5 := own_made ho5 hg5.size (by decide)
        have hb5 : Below W.heap.size W w5 := (Below.refl _ _).grown hg5 (Nat.le_refl _) (fun k hk => by cases hk)
        have hr5' : Own 5 .u8 W.heap.size w5 (.slice (some ⟨W.heap.size, 0, none⟩) 24 24) (List.replicate 24 0) := hr5
        have HZ := Lib.hid hr5'
        have HB5 := Lib.hid hb5
        have d5 : w5.cell? ⟨w.heap.size, 0, none⟩ = some (.slice a d.length cap) := (hb5.cell (p := ⟨w.heap.size, 0, none⟩) (HKs.out)).trans d0
        clear ho5 hg5 hr5 hr5' hb5 hrun
        intro K hK
        go_simp
        skip
        refine hK.out _ _ (Or.inr d5) ?_
        clear hK K
        try simp only [Act.put, List.setIfInBounds_toArray, List.set_cons_zero, List.set_cons_succ]
        apply Till.one (i := 4)
        · kernel_rfl
        · simp only [List.getElem?_toArray, List.getElem?_cons_succ, List.getElem?_cons_zero]
          rfl
        intro K hK
        go_simp
        refine (impl_sx (HU0.out.behind (HB5.out.mono HL1.out)) (HV0.out.behind (HB5.out.mono HL2.out)) (Nat.le_trans HL1.out HB5.out.size) (Nat.le_trans HL2.out HB5.out.size) HN.out).mono ?_
        rintro e' w6 ⟨v6, he, h6, hb6⟩
        subst he
        have H6 := Lib.hid h6
        have HB6 := Lib.hid hb6
        have d6 : w6.cell? ⟨w.heap.size, 0, none⟩ = some (.slice a d.length cap) := (hb6.cell (p := ⟨w.heap.size, 0, none⟩) (Nat.lt_of_lt_of_le HKs.out HB5.out.size)).trans d5
        clear h6 hb6
        refine hK.out _ _ (Or.inr d6) ?_
        clear hK K
        try simp only [Act.put, List.setIfInBounds_toArray, List.set_cons_zero, List.set_cons_succ]
        have HLn : Hid ((List.replicate 24 (0 : Int)).length + (sx d ys).length ≤ 140737488355328) := Lib.hid (by rw [List.length_replicate]; have := HSl.out; omega)
        have HZ0 : Hid (Own 5 .u8 0 w6 (.slice (some ⟨W.heap.size, 0, none⟩) 24 24) (List.replicate 24 0)) := Lib.hid ((HZ.out.next HB6.out).mono (Nat.zero_le _))
        have H60 : Hid (Own 5 .u8 0 w6 v6 (sx d ys)) := Lib.hid (H6.out.mono (Nat.zero_le _))
        have HAp : Hid (Apart v6 (.slice (some ⟨W.heap.size, 0, none⟩) 24 24)) := Lib.hid (HZ.out.apart H6.out).symm
        have HZl : Hid (∀ r, (Value.slice (some ⟨W.heap.size, 0, none⟩) 24 24).ownBlock = some r → w.heap.size ≤ r) := Lib.hid (fun r hr => Nat.le_trans HBw.out.size (HZ.out.lt r hr).1)
        have HBx : Hid (Below w.heap.size w w6) := Lib.hid ((HBw.out.trans (HB5.out.mono HBw.out.size)).trans (HB6.out.mono (Nat.le_trans HBw.out.size HB5.out.size)))
        clear d5
        apply Till.one (i := 5)
        · kernel_rfl
        · simp only [List.getElem?_toArray, List.getElem?_cons_succ, List.getElem?_cons_zero]
          rfl
        intro K hK
        go_simp
        refine (xorInto_own HZ0.out H60.out HAp.out HLn.out).mono ?_
        rintro e' w7 ⟨v7, he, h7, hk7, hp7⟩
        subst he
        have HE7 : Hid (Own 5 .u8 w.heap.size w7 v7 (ans d ys)) := Lib.hid (by
          rw [HY.out]
          refine h7.over (by have h1 := hk7.size; have h2 := HBx.out.size; omega) (fun r hr => ?_)
          rcases hp7 with h8 | h8
          · rw [h8] at hr; exact HZl.out r hr
          · exact Nat.le_trans HBx.out.size (h8 r hr))
        have HB7 : Hid (Below w.heap.size w w7) := Lib.hid (HBx.out.trans (hk7.below (fun b hb => HZl.out b hb) HBx.out.size))
        clear h7 hk7 hp7
        refine hK.out _ _ (Or.inl (by rfl)) ?_
        clear hK K
        try simp only [Act.put, List.setIfInBounds_toArray, List.set_cons_zero, List.set_cons_succ]
        apply Till.one (i := 6)
        · kernel_rfl
        · simp only [List.getElem?_toArray, List.getElem?_cons_succ, List.getElem?_cons_zero]
          rfl
        intro K hK
        go_simp
        skip
        refine hK.out _ _ (Or.inl (by rfl)) ?_
        clear hK K
        try simp only [Act.put, List.setIfInBounds_toArray, List.set_cons_zero, List.set_cons_succ]
        refine Till.done (by kernel_rfl) ?_ _
        go_wp2_with fail
        go_ret
        exact ⟨_, rfl, HE7.out, HB7.out⟩
      · intro K hK
        go_simp
        refine (impl_sx HU0.out HV0.out HL1.out HL2.out HN.out).mono ?_
        rintro e' w6 ⟨v6, he, h6, hb6⟩
        subst he
        have H6 := Lib.hid h6
        have HB6 := Lib.hid hb6
        have d6 : w6.cell? ⟨w.heap.size, 0, none⟩ = some (.slice a d.length cap) := (hb6.cell (p := ⟨w.heap.size, 0, none⟩) (HKs.out)).trans d0
        clear h6 hb6
        refine hK.out _ _ (Or.inr d6) ?_
        clear hK K
        try simp only [Act.put, List.setIfInBounds_toArray, List.set_cons_zero, List.set_cons_succ]
        obtain ⟨w5, hrun, ho5, hg5⟩ := run_make_full (P := Try.prog) w6 w6.heap.size 22 5 i0 (.int .u8 0) 1 Try.underlying22 Hhi.out hz0 hz1 .i64 .i64 24 (by rw [hz2]; omega) (by unfold maxLen; omega) (Nat.le_refl _)
        have hm5 : (Instr.makeSlice 22 (.int .i64 24) (.int .i64 24)).run Try.prog w6 = .ok (.slice (some ⟨w6.heap.size, 0, none⟩) 24 24) w5 := hrun
        have hr5 := own_made ho5 hg5.size (by decide)
        have hb5 : Below w6.heap.size w6 w5 := (Below.refl _ _).grown hg5 (Nat.le_refl _) (fun k hk => by cases hk)
        have hr5' : Own 5 .u8 w6.heap.size w5 (.slice (some ⟨w6.heap.size, 0, none⟩) 24 24) (List.replicate 24 0) := hr5
        have HZ := Lib.hid hr5'
        have HB5 := Lib.hid hb5
        have d5 : w5.cell? ⟨w.heap.size, 0, none⟩ = some (.slice a d.length cap) := (hb5.cell (p := ⟨w.heap.size, 0, none⟩) (Nat.lt_of_lt_of_le HKs.out HB6.out.size)).trans d6
        clear ho5 hg5 hr5 hr5' hb5 hrun
        apply Till.one (i := 0)
        · kernel_rfl
        · simp only [List.getElem?_toArray, List.getElem?_cons_zero]
          rfl
        intro K hK
        go_simp
        skip
        refine hK.out _ _ (Or.inr d5) ?_
        clear hK K
        try simp only [Act.put, List.setIfInBounds_toArray, List.set_cons_zero, List.set_cons_succ]
        have HLn : Hid ((List.replicate 24 (0 : Int)).length + (sx d ys).length ≤ 140737488355328) := Lib.hid (by rw [List.length_replicate]; have := HSl.out; omega)
        have HZ0 : Hid (Own 5 .u8 0 w5 (.slice (some ⟨w6.heap.size, 0, none⟩) 24 24) (List.replicate 24 0)) := Lib.hid (HZ.out.mono (Nat.zero_le _))
        have H60 : Hid (Own 5 .u8 0 w5 v6 (sx d ys)) := Lib.hid ((H6.out.next HB5.out).mono (Nat.zero_le _))
        have HAp : Hid (Apart v6 (.slice (some ⟨w6.heap.size, 0, none⟩) 24 24)) := Lib.hid (H6.out.apart HZ.out)
        have HZl : Hid (∀ r, (Value.slice (some ⟨w6.heap.size, 0, none⟩) 24 24).ownBlock = some r → w.heap.size ≤ r) := Lib.hid (fun r hr => Nat.le_trans (Nat.le_trans HBw.out.size HB6.out.size) (HZ.out.lt r hr).1)
        have HBx : Hid (Below w.heap.size w w5) := Lib.hid ((HBw.out.trans (HB6.out.mono HBw.out.size)).trans (HB5.out.mono (Nat.le_trans HBw.out.size HB6.out.size)))
        clear d5
        apply Till.one (i := 5)
        · kernel_rfl
        · simp only [List.getElem?_toArray, List.getElem?_cons_succ, List.getElem?_cons_zero]
          rfl
        intro K hK
        go_simp
        refine (xorInto_own HZ0.out H60.out HAp.out HLn.out).mono ?_
        rintro e' w7 ⟨v7, he, h7, hk7, hp7⟩
        subst he
        have HE7 : Hid (Own 5 .u8 w.heap.size w7 v7 (ans d ys)) := Lib.hid (by
          rw [HY.out]
          refine h7.over (by have h1 := hk7.size; have h2 := HBx.out.size; omega) (fun r hr => ?_)
          rcases hp7 with h8 | h8
          · rw [h8] at hr; exact HZl.out r hr
          · exact Nat.le_trans HBx.out.size (h8 r hr))
        have HB7 : Hid (Below w.heap.size w w7) := Lib.hid (HBx.out.trans (hk7.below (fun b hb => HZl.out b hb) HBx.out.size))
        clear h7 hk7 hp7
        refine hK.out _ _ (Or.inl (by rfl)) ?_
        clear hK K
        try simp only [Act.put, List.setIfInBounds_toArray, List.set_cons_zero, List.set_cons_succ]
        apply Till.one (i := 6)
        · kernel_rfl
        · simp only [List.getElem?_toArray, List.getElem?_cons_succ, List.getElem?_cons_zero]
          rfl
        intro K hK
        go_simp
        skip
        refine hK.out _ _ (Or.inl (by rfl)) ?_
        clear hK K
        try simp only [Act.put, List.setIfInBounds_toArray, List.set_cons_zero, List.set_cons_succ]
        refine Till.done (by kernel_rfl) ?_ _
        go_wp2_with fail
        go_ret
        exact ⟨_, rfl, HE7.out, HB7.out⟩

set_option maxHeartbeats 4000000 in
/-- spec.AnswerQuery -/
theorem spec_ans {l1 l2 : Nat} {w : World} {u v : Value} {d : List (List Int)} {ys : List Int} (hu : Rd2 l1 .u8 w u d) (hv : Rd l2 .i64 w v ys) (hl1 : l1 ≤ w.heap.size) (hl2 : l2 ≤ w.heap.size) (hn : tot d ≤ 1099511627776) :
    Calls Try.prog 37 #[.agg #[u], v] w fun e w' => ∃ v', e = .returned v' ∧ Own 5 .u8 w.heap.size w' v' (ans d ys) ∧ Below w.heap.size w w' := by
  obtain ⟨i0, hi, hz0, hz1, hz2⟩ := info_parts infou8
  have Hhi := Lib.hid hi
  obtain ⟨a, cap, rfl, h1, h2, _⟩ := hu.open
  have HB := Lib.hid ((Below.refl w.heap.size w).alloc (Nat.le_refl _) (.cells #[.slice a d.length cap] 26))
  have HK := Lib.hid (heap_alloc_new w (.cells #[.slice a d.length cap] 26))
  have HU := Lib.hid hu
  have HV := Lib.hid hv
  have HN := Lib.hid hn
  have hzl : d.length ≤ 1099511627776 := by unfold tot at hn; omega
  have HWl : Hid ((Lit.int .i64 (d.length : Int)).wf = true) := Lib.hid (wf_i64_of (by omega) (by omega))
  unfold maxLen at h2
  obtain ⟨p, hp⟩ : ∃ p, p = vd d := ⟨_, rfl⟩
  obtain ⟨q, hq⟩ : ∃ q, q = isel ys (d.length : Int) := ⟨_, rfl⟩
  have Hp := Lib.hid hp
  have Hq := Lib.hid hq
  have HE : Hid (p = false → ans d ys = []) := Lib.hid (fun h => ans_no (ansK_a (by rw [← hp, h])))
  have HE' : Hid (q = false → ans d ys = []) := Lib.hid (fun h => ans_no (ansK_b (by rw [← hq, h])))
  have HY : Hid (p = true → q = true → ans d ys = xorl (List.replicate 24 0) (sx d ys)) := Lib.hid (fun h h' => ans_yes (ansK_yes (by rw [← hp, h]) (by rw [← hq, h'])))
  have HSl : Hid ((sx d ys).length ≤ 1099511627776) := Lib.hid (by have := sx_len d ys; unfold tot at hn; omega)
  obtain ⟨W0, hW0⟩ : ∃ W, W = w.alloc (.cells #[.slice a d.length cap] 26) := ⟨_, rfl⟩
  rw [← hW0] at HB HK
  have HW0 := Lib.hid hW0
  clear hu hv hn hi hp hq hW0
  cases p
  · replace HE := Lib.hid (HE.out rfl)
    go_enter Try.func37, Try.ntmps37
    have cD := blk_cell HK.out 0
    rw [one0, HW0.out] at cD
    go_wp2_with fail
    rw [← HW0.out]
    clear cD
    refine (spec_vd (HU.out.behind (HB.out.mono hl1)) (Nat.le_trans hl1 HB.out.size)).mono ?_
    rintro e w1 ⟨he, hb1⟩
    rw [← Hp.out] at he
    subst he
    replace HK := Lib.hid ((hb1.block w.heap.size (lt_of_block HK.out)).trans HK.out)
    replace HB := Lib.hid (HB.out.trans (hb1.mono HB.out.size))
    have cD := blk_cell HK.out 0
    rw [one0] at cD
    clear hb1
    go_wp2_with fail
    go_ret
    exact ⟨_, rfl, by rw [HE.out]; exact Own.lit _ _ HB.out.size, HB.out.alloc HB.out.size _⟩
  · cases q
    · replace HE' := Lib.hid (HE'.out rfl)
      go_enter Try.func37, Try.ntmps37
      have cD := blk_cell HK.out 0
      rw [one0, HW0.out] at cD
      go_wp2_with fail
      rw [← HW0.out]
      clear cD
      refine (spec_vd (HU.out.behind (HB.out.mono hl1)) (Nat.le_trans hl1 HB.out.size)).mono ?_
      rintro e w1 ⟨he, hb1⟩
      rw [← Hp.out] at he
      subst he
      replace HK := Lib.hid ((hb1.block w.heap.size (lt_of_block HK.out)).trans HK.out)
      replace HB := Lib.hid (HB.out.trans (hb1.mono HB.out.size))
      have cD := blk_cell HK.out 0
      rw [one0] at cD
      clear hb1
      go_wp2_with fail
      clear cD
      refine (spec_is (HV.out.behind (HB.out.mono hl2)) HWl.out).mono ?_
      rintro e w2 ⟨he, hw2⟩
      rw [← Hq.out] at he
      subst he
      subst hw2
      have cD := blk_cell HK.out 0
      rw [one0] at cD
      go_wp2_with fail
      go_ret
      exact ⟨_, rfl, by rw [HE'.out]; exact Own.lit _ _ HB.out.size, HB.out.alloc HB.out.size _⟩
    · replace HY := Lib.hid (HY.out rfl rfl)
      go_enter Try.func37, Try.ntmps37
      have cD := blk_cell HK.out 0
      rw [one0, HW0.out] at cD
      go_wp2_with fail
      rw [← HW0.out]
      clear cD
      refine (spec_vd (HU.out.behind (HB.out.mono hl1)) (Nat.le_trans hl1 HB.out.size)).mono ?_
      rintro e w1 ⟨he, hb1⟩
      rw [← Hp.out] at he
      subst he
      replace HK := Lib.hid ((hb1.block w.heap.size (lt_of_block HK.out)).trans HK.out)
      replace HB := Lib.hid (HB.out.trans (hb1.mono HB.out.size))
      have cD := blk_cell HK.out 0
      rw [one0] at cD
      clear hb1
      go_wp2_with fail
      clear cD
      refine (spec_is (HV.out.behind (HB.out.mono hl2)) HWl.out).mono ?_
      rintro e w2 ⟨he, hw2⟩
      rw [← Hq.out] at he
      subst he
      subst hw2
      have cD := blk_cell HK.out 0
      rw [one0] at cD
      obtain ⟨W, hW⟩ : ∃ W, W = w2.drew := ⟨_, rfl⟩
      have d0 : W.cell? ⟨w.heap.size, 0, none⟩ = some (.slice a d.length cap) := by rw [hW]; exact cD
      have HBw : Hid (Below w.heap.size w W) := Lib.hid (by rw [hW]; exact HB.out.drew)
      have HKs : Hid (w.heap.size < W.heap.size) := Lib.hid (by rw [hW]; exact lt_of_block HK.out)
      have HU0 : Hid (Rd2 l1 .u8 W (.slice a d.length cap) d) := Lib.hid (HU.out.behind (HBw.out.mono hl1))
      have HV0 : Hid (Rd l2 .i64 W v ys) := Lib.hid (HV.out.behind (HBw.out.mono hl2))
      have HL1 : Hid (l1 ≤ W.heap.size) := Lib.hid (Nat.le_trans hl1 HBw.out.size)
      have HL2 : Hid (l2 ≤ W.heap.size) := Lib.hid (Nat.le_trans hl2 HBw.out.size)
      go_wp2_with fail
      refine region_till (fun w' => w'.cell? ⟨w.heap.size, 0, none⟩ = some (.slice a d.length cap)) 5 (by kernel_rfl) ?_
      rw [← hW]
      clear hW
      apply Till.take (i := 1) [1, 2, 4, 5]
      · simp only [List.getElem?_toArray, List.getElem?_cons_succ, List.getElem?_cons_zero]
        rfl
      · kernel_rfl
      · kernel_rfl
      · kernel_rfl
      · kernel_rfl
      · exact fun _ _ _ h => h
      · first
          | exact Or.inr ⟨by rfl, rfl⟩
          | (refine Or.inl ⟨by rfl, fun wq hwq => ?_⟩
             dsimp only at hwq
             go_simp
             first
               | done
               | rfl)
      · exact d0
      simp only [Act.put, List.setIfInBounds_toArray, List.set_cons_zero, List.set_cons_succ]
      apply Till.take (i := 2) [2, 4, 5]
      · simp only [List.getElem?_toArray, List.getElem?_cons_succ, List.getElem?_cons_zero]
        rfl
      · kernel_rfl
      · kernel_rfl
      · kernel_rfl
      · kernel_rfl
      · exact fun _ _ _ h => h
      · first
          | exact Or.inr ⟨by rfl, rfl⟩
          | (refine Or.inl ⟨by rfl, fun wq hwq => ?_⟩
             dsimp only at hwq
             go_simp
             first
               | done
               | rfl)
      · exact d0
      simp only [Act.put, List.setIfInBounds_toArray, List.set_cons_zero, List.set_cons_succ]
      apply Till.take (i := 3) [3, 4, 5]
      · simp only [List.getElem?_toArray, List.getElem?_cons_succ, List.getElem?_cons_zero]
        rfl
      · kernel_rfl
      · kernel_rfl
      · kernel_rfl
      · kernel_rfl
      · exact fun _ _ _ h => h
      · first
          | exact Or.inr ⟨by rfl, rfl⟩
          | (refine Or.inl ⟨by rfl, fun wq hwq => ?_⟩
             dsimp only at hwq
             go_simp
             first
               | done
               | rfl)
      · exact d0
      simp only [Act.put, List.setIfInBounds_toArray, List.set_cons_zero, List.set_cons_succ]
      apply Till.two (i := 0) (j := 4)
      · kernel_rfl
      · simp only [List.getElem?_toArray, List.getElem?_cons_zero]
        rfl
      · simp only [List.getElem?_toArray, List.getElem?_cons_succ, List.getElem?_cons_zero]
        rfl
      · obtain ⟨w5, hrun, ho5, hg5⟩ := run_make_full (P := Try.prog) W W.heap.size 22 5 i0 (.int .u8 0) 1 Try.underlying22 Hhi.out hz0 hz1 .i64 .i64 24 (by rw [hz2]; omega) (by unfold maxLen; omega) (Nat.le_refl _)
        have hm5 : (Instr.makeSlice 22 (.int .i64 24) (.int .i64 24)).run Try.prog W = .ok (.slice (some ⟨W.heap.size, 0, none⟩) 24 24) w5 := hrun
        have hr5 := own_made ho5 hg5.size (by decide)
        have hb5 : Below W.heap.size W w5 := (Below.refl _ _).grown hg5 (Nat.le_refl _) (fun k hk => by cases hk)
        have hr5' : Own 5 .u8 W.heap.size w5 (.slice (some ⟨W.heap.size, 0, none⟩) 24 24) (List.replicate 24 0) := hr5
        have HZ := Lib.hid hr5'
        have HB5 := Lib.hid hb5
        have d5 : w5.cell? ⟨w.heap.size, 0, none⟩ = some (.slice a d.length cap) := (hb5.cell (p := ⟨w.heap.size, 0, none⟩) (HKs.out)).trans d0
        clear ho5 hg5 hr5 hr5' hb5 hrun
        intro K hK
        go_simp
        skip
        refine hK.out _ _ (Or.inr d5) ?_
        clear hK K
        try simp only [Act.put, List.setIfInBounds_toArray, List.set_cons_zero, List.set_cons_succ]
        apply Till.one (i := 4)
        · kernel_rfl
        · simp only [List.getElem?_toArray, List.getElem?_cons_succ, List.getElem?_cons_zero]
          rfl
        intro K hK
        go_simp
        refine (spec_sx (HU0.out.behind (HB5.out.mono HL1.out)) (HV0.out.behind (HB5.out.mono HL2.out)) (Nat.le_trans HL1.out HB5.out.size) (Nat.le_trans HL2.out HB5.out.size) HN.out).mono ?_
        rintro e' w6 ⟨v6, he, h6, hb6⟩
        subst he
        have H6 := Lib.hid h6
        have HB6 := Lib.hid hb6
        have d6 : w6.cell? ⟨w.heap.size, 0, none⟩ = some (.slice a d.length cap) := (hb6.cell (p := ⟨w.heap.size, 0, none⟩) (Nat.lt_of_lt_of_le HKs.out HB5.out.size)).trans d5
        clear h6 hb6
        refine hK.out _ _ (Or.inr d6) ?_
        clear hK K
        try simp only [Act.put, List.setIfInBounds_toArray, List.set_cons_zero, List.set_cons_succ]
        have HLn : Hid ((List.replicate 24 (0 : Int)).length + (sx d ys).length ≤ 140737488355328) := Lib.hid (by rw [List.length_replicate]; have := HSl.out; omega)
        have HZ0 : Hid (Own 5 .u8 0 w6 (.slice (some ⟨W.heap.size, 0, none⟩) 24 24) (List.replicate 24 0)) := Lib.hid ((HZ.out.next HB6.out).mono (Nat.zero_le _))
        have H60 : Hid (Own 5 .u8 0 w6 v6 (sx d ys)) := Lib.hid (H6.out.mono (Nat.zero_le _))
        have HAp : Hid (Apart v6 (.slice (some ⟨W.heap.size, 0, none⟩) 24 24)) := Lib.hid (HZ.out.apart H6.out).symm
        have HZl : Hid (∀ r, (Value.slice (some ⟨W.heap.size, 0, none⟩) 24 24).ownBlock = some r → w.heap.size ≤ r) := Lib.hid (fun r hr => Nat.le_trans HBw.out.size (HZ.out.lt r hr).1)
        have HBx : Hid (Below w.heap.size w w6) := Lib.hid ((HBw.out.trans (HB5.out.mono HBw.out.size)).trans (HB6.out.mono (Nat.le_trans HBw.out.size HB5.out.size)))
        clear d5
        apply Till.one (i := 5)
        · kernel_rfl
        · simp only [List.getElem?_toArray, List.getElem?_cons_succ, List.getElem?_cons_zero]
          rfl
        intro K hK
        go_simp
        refine (spec_xb HZ0.out.rd H60.out.rd (Nat.le_refl _) (Nat.le_refl _) HLn.out).mono ?_
        rintro e' w7 ⟨v7, he, h7, hb7⟩
        subst he
        have HE7 : Hid (Own 5 .u8 w.heap.size w7 v7 (ans d ys)) := Lib.hid (by rw [HY.out]; exact h7.mono HBx.out.size)
        have HB7 : Hid (Below w.heap.size w w7) := Lib.hid (HBx.out.trans (hb7.mono HBx.out.size))
        clear h7 hb7
        refine hK.out _ _ (Or.inl (by rfl)) ?_
        clear hK K
        try simp only [Act.put, List.setIfInBounds_toArray, List.set_cons_zero, List.set_cons_succ]
        apply Till.one (i := 6)
        · kernel_rfl
        · simp only [List.getElem?_toArray, List.getElem?_cons_succ, List.getElem?_cons_zero]
          rfl
        intro K hK
        go_simp
        skip
        refine hK.out _ _ (Or.inl (by rfl)) ?_
        clear hK K
        try simp only [Act.put, List.setIfInBounds_toArray, List.set_cons_zero, List.set_cons_succ]
        refine Till.done (by kernel_rfl) ?_ _
        go_wp2_with fail
        go_ret
        exact ⟨_, rfl, HE7.out, HB7.out⟩
      · intro K hK
        go_simp
        refine (spec_sx HU0.out HV0.out HL1.out HL2.out HN.out).mono ?_
        rintro e' w6 ⟨v6, he, h6, hb6⟩
        subst he
        have H6 := Lib.hid h6
        have HB6 := Lib.hid hb6
        have d6 : w6.cell? ⟨w.heap.size, 0, none⟩ = some (.slice a d.length cap) := (hb6.cell (p := ⟨w.heap.size, 0, none⟩) (HKs.out)).trans d0
        clear h6 hb6
        refine hK.out _ _ (Or.inr d6) ?_
        clear hK K
        try simp only [Act.put, List.setIfInBounds_toArray, List.set_cons_zero, List.set_cons_succ]
        obtain ⟨w5, hrun, ho5, hg5⟩ := run_make_full (P := Try.prog) w6 w6.heap.size 22 5 i0 (.int .u8 0) 1 Try.underlying22 Hhi.out hz0 hz1 .i64 .i64 24 (by rw [hz2]; omega) (by unfold maxLen; omega) (Nat.le_refl _)
        have hm5 : (Instr.makeSlice 22 (.int .i64 24) (.int .i64 24)).run Try.prog w6 = .ok (.slice (some ⟨w6.heap.size, 0, none⟩) 24 24) w5 := hrun
        have hr5 := own_made ho5 hg5.size (by decide)
        have hb5 : Below w6.heap.size w6 w5 := (Below.refl _ _).grown hg5 (Nat.le_refl _) (fun k hk => by cases hk)
        have hr5' : Own 5 .u8 w6.heap.size w5 (.slice (some ⟨w6.heap.size, 0, none⟩) 24 24) (List.replicate 24 0) := hr5
        have HZ := Lib.hid hr5'
        have HB5 := Lib.hid hb5
        have d5 : w5.cell? ⟨w.heap.size, 0, none⟩ = some (.slice a d.length cap) := (hb5.cell (p := ⟨w.heap.size, 0, none⟩) (Nat.lt_of_lt_of_le HKs.out HB6.out.size)).trans d6
        clear ho5 hg5 hr5 hr5' hb5 hrun
        apply Till.one (i := 0)
        · kernel_rfl
        · simp only [List.getElem?_toArray, List.getElem?_cons_zero]
          rfl
        intro K hK
        go_simp
        skip
        refine hK.out _ _ (Or.inr d5) ?_
        clear hK K
        try simp only [Act.put, List.setIfInBounds_toArray, List.set_cons_zero, List.set_cons_succ]
        have HLn : Hid ((List.replicate 24 (0 : Int)).length + (sx d ys).length ≤ 140737488355328) := Lib.hid (by rw [List.length_replicate]; have := HSl.out; omega)
        have HZ0 : Hid (Own 5 .u8 0 w5 (.slice (some ⟨w6.heap.size, 0, none⟩) 24 24) (List.replicate 24 0)) := Lib.hid (HZ.out.mono (Nat.zero_le _))
        have H60 : Hid (Own 5 .u8 0 w5 v6 (sx d ys)) := Lib.hid ((H6.out.next HB5.out).mono (Nat.zero_le _))
        have HAp : Hid (Apart v6 (.slice (some ⟨w6.heap.size, 0, none⟩) 24 24)) := Lib.hid (H6.out.apart HZ.out)
        have HZl : Hid (∀ r, (Value.slice (some ⟨w6.heap.size, 0, none⟩) 24 24).ownBlock = some r → w.heap.size ≤ r) := Lib.hid (fun r hr => Nat.le_trans (Nat.le_trans HBw.out.size HB6.out.size) (HZ.out.lt r hr).1)
        have HBx : Hid (Below w.heap.size w w5) := Lib.hid ((HBw.out.trans (HB6.out.mono HBw.out.size)).trans (HB5.out.mono (Nat.le_trans HBw.out.size HB6.out.size)))
        clear d5
        apply Till.one (i := 5)
        · kernel_rfl
        · simp only [List.getElem?_toArray, List.getElem?_cons_succ, List.getElem?_cons_zero]
          rfl
        intro K hK
        go_simp
        refine (spec_xb HZ0.out.rd H60.out.rd (Nat.le_refl _) (Nat.le_refl _) HLn.out).mono ?_
        rintro e' w7 ⟨v7, he, h7, hb7⟩
        subst he
        have HE7 : Hid (Own 5 .u8 w.heap.size w7 v7 (ans d ys)) := Lib.hid (by rw [HY.out]; exact h7.mono HBx.out.size)
        have HB7 : Hid (Below w.heap.size w w7) := Lib.hid (HBx.out.trans (hb7.mono HBx.out.size))
        clear h7 hb7
        refine hK.out _ _ (Or.inl (by rfl)) ?_
        clear hK K
        try simp only [Act.put, List.setIfInBounds_toArray, List.set_cons_zero, List.set_cons_succ]
        apply Till.one (i := 6)
        · kernel_rfl
        · simp only [List.getElem?_toArray, List.getElem?_cons_succ, List.getElem?_cons_zero]
          rfl
        intro K hK
        go_simp
        skip
        refine hK.out _ _ (Or.inl (by rfl)) ?_
        clear hK K
        try simp only [Act.put, List.setIfInBounds_toArray, List.set_cons_zero, List.set_cons_succ]
        refine Till.done (by kernel_rfl) ?_ _
        go_wp2_with fail
        go_ret
        exact ⟨_, rfl, HE7.out, HB7.out⟩

end Go.Proofs.Ytigeghmkkppldaa
