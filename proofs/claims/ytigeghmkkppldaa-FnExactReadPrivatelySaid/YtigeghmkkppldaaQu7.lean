/- ReadPrivately, the document's: what it gives. No conditions but a size that a machine holds. -/
import Derived.Test.YtigeghmkkppldaaQu2
import Derived.Test.YtigeghmkkppldaaQu5
import Derived.Test.YtigeghmkkppldaaQu6
namespace Go.Proofs.Ytigeghmkkppldaa
open Go Go.RowKit
set_option linter.unusedVariables false
attribute [local irreducible] kh

set_option maxHeartbeats 4000000 in
/-- spec.ReadPrivately -/
theorem spec_rp {l1 l2 : Nat} {w : World} {u v : Value} {d : List (List Int)} {x : Int} {ss : List Int} (hu : Rd2 l1 .u8 w u d) (hv : Rd l2 .i64 w v ss) (hl1 : l1 ≤ w.heap.size) (hl2 : l2 ≤ w.heap.size) (hx : (Lit.int .i64 x).wf = true) (hn : tot d ≤ 268435456) (hs : ss.length ≤ 1099511627776) :
    Calls Try.prog 14 #[.agg #[u], .int .i64 x, v] w fun e w' => ∃ v', e = .returned (.tuple #[v', .bool (rpK d x ss)]) ∧ Own 5 .u8 w.heap.size w' v' (rp d x ss) ∧ Below w.heap.size w w' := by
  obtain ⟨i1, hi', hy0, hy1, hy2⟩ := info_parts infou8s
  have Hhi' := Lib.hid hi'
  obtain ⟨a, cap, rfl, h1, h2, _⟩ := hu.open
  have HB := Lib.hid ((Below.refl w.heap.size w).alloc (Nat.le_refl _) (.cells #[.slice a d.length cap] 26))
  have HK := Lib.hid (heap_alloc_new w (.cells #[.slice a d.length cap] 26))
  have HU := Lib.hid hu
  have HV := Lib.hid hv
  have HN := Lib.hid hn
  have HX := Lib.hid hx
  have HSs := Lib.hid hs
  have hzl : d.length ≤ 268435456 := by unfold tot at hn; omega
  have HWl : Hid ((Lit.int .i64 (d.length : Int)).wf = true) := Lib.hid (wf_i64_of (by omega) (by omega))
  unfold maxLen at h2
  obtain ⟨W0, hW0⟩ : ∃ W, W = w.alloc (.cells #[.slice a d.length cap] 26) := ⟨_, rfl⟩
  rw [← hW0] at HB HK
  have HW0 := Lib.hid hW0
  clear hu hv hn hi' hx hs hW0
  go_enter Try.func14, Try.ntmps14
  have cD := blk_cell HK.out 0
  rw [one0, HW0.out] at cD
  go_wp2_with fail
  rw [← HW0.out]
  clear cD
  refine (spec_mkq (HV.out.behind (HB.out.mono hl2)) (Nat.le_trans hl2 HB.out.size) HWl.out HX.out HSs.out).mono ?_
  rintro e w1 ⟨v1, rfl, hq1, hb1⟩
  obtain ⟨Q, hQ⟩ : ∃ Q, Q = mkq (d.length : Int) x ss := ⟨_, rfl⟩
  have HQ4 : Q.length ≤ 4 := by rw [hQ]; exact mkq_len _ _ _
  have HRp : Hid (rp d x ss = ca (answers d Q) ∧ rpK d x ss = caK (answers d Q)) := Lib.hid (by rw [hQ]; exact ⟨rfl, rfl⟩)
  rw [← hQ] at hq1
  obtain ⟨a1, cap1, rfl, hc1, hm1, hcQ⟩ := hq1.rd2.open
  have HcQ := Lib.hid hcQ
  have HQ1 := Lib.hid hq1.rd2
  unfold maxLen at hm1
  replace HK := Lib.hid ((hb1.block w.heap.size (lt_of_block HK.out)).trans HK.out)
  replace HB := Lib.hid (HB.out.trans (hb1.mono HB.out.size))
  have HO : Hid (Own2 22 5 .u8 (ival w1.heap.size (w1.heap.size + 1)) (w1.alloc (.cells #[] 22)) (.slice (some ⟨w1.heap.size, 0, none⟩) 0 0) (answers d (Q.take 0))) := Lib.hid (by
    rw [List.take_zero]
    exact Own2.lit _ _ _ (by unfold ival; omega))
  have HB1 := Lib.hid ((Below.refl w1.heap.size w1).alloc (Nat.le_refl _) (.cells #[] 22))
  have HSb : Hid (w.heap.size < w1.heap.size) := Lib.hid (lt_of_block HK.out)
  clear hb1 hq1 hcQ hQ
  go_wp2_with fail
  go_loopw [9, 10] (fun s i wr => ∃ (j : Nat) (F : Nat → Prop), i = .int .i64 j ∧ j ≤ Q.length ∧ Own2 22 5 .u8 F wr s (answers d (Q.take j)) ∧ (∀ b, F b → w1.heap.size ≤ b ∧ b < wr.heap.size) ∧ Below w1.heap.size w1 wr) (fun _ i _ => Q.length - (intOf i).toNat)
  case atStart => exact ⟨0, _, rfl, Nat.zero_le _, HO.out, fun b hb => by unfold ival at hb; simp; omega, HB1.out⟩
  case round =>
    obtain ⟨j, F, rfl, hj, hO, hF, hB⟩ := hrel
    obtain ⟨a6, c6, rfl, _⟩ := hO.open
    rw [show (answers d (Q.take j)).length = j by rw [answers_len, List.length_take]; omega] at hO ⊢
    replace HO := Lib.hid hO
    have HF := Lib.hid hF
    replace HB1 := Lib.hid hB
    clear hO hF hB
    by_cases hlt : j < Q.length
    · have e2 : decide ((j : Int) < (Q.length : Int)) = true := by simp; omega
      have hjQ : (j : Int) < (Q.length : Int) := by omega
      obtain ⟨bq, oq, rfl, hbq, hcell⟩ := HcQ.out (by omega)
      obtain ⟨zs, hzs⟩ : ∃ zs, Q[j]? = some zs := ⟨_, List.getElem?_eq_getElem hlt⟩
      obtain ⟨y, cy, ry⟩ := hcell wr HB1.out j zs hzs
      have HY := Lib.hid ry
      have HT := Lib.hid (answers_take (d := d) hzs)
      have HLb : Hid (((answers d (Q.take j)).length + 1) * 24 ≤ 140737488355328) := Lib.hid (by rw [answers_len, List.length_take]; omega)
      have HLz : Hid ((answers d (Q.take (j + 1))).length = j + 1) := Lib.hid (by rw [answers_len, List.length_take]; omega)
      have HKr := Lib.hid ((HB1.out.block w.heap.size HSb.out).trans HK.out)
      have HUr : Hid (Rd2 l1 .u8 wr (.slice a d.length cap) d) := Lib.hid (HU.out.behind ((HB.out.trans (HB1.out.mono HB.out.size)).mono hl1))
      have HS1 : Hid (l1 ≤ wr.heap.size) := Lib.hid (Nat.le_trans hl1 (Nat.le_trans HB.out.size HB1.out.size))
      have cD := blk_cell HKr.out 0
      rw [one0] at cD
      have HCs : Hid (∀ w', Below wr.heap.size wr w' → w'.cell? ⟨w.heap.size, 0, none⟩ = some (.slice a d.length cap) ∧ w'.cell? ⟨bq, oq + j, none⟩ = some y) := Lib.hid (fun w' hb' =>
        ⟨(hb'.cell (p := ⟨w.heap.size, 0, none⟩) (lt_of_block HKr.out)).trans cD, (hb'.cell (p := ⟨bq, oq + j, none⟩) (show bq < wr.heap.size by have := HB1.out.size; omega)).trans cy⟩)
      have d0 := HCs.out wr.drew (Below.refl _ _).drew
      clear hzs ry hcell
      go_wp2_with fail
      refine region_till (fun w' => w'.cell? ⟨w.heap.size, 0, none⟩ = some (.slice a d.length cap) ∧ w'.cell? ⟨bq, oq + j, none⟩ = some y) 8 (by kernel_rfl) ?_
      apply Till.take (i := 0) [0, 8]
      · simp only [List.getElem?_toArray, List.getElem?_cons_zero]
        rfl
      · kernel_rfl
      · kernel_rfl
      · kernel_rfl
      · kernel_rfl
      · exact fun _ _ _ h => h
      · first
          | exact Or.inr ⟨by rfl, rfl⟩
          | (refine Or.inl ⟨by rfl, fun wq hwq => ?_⟩
             dsimp only at hwq
             go_simp
             first
               | done
               | rfl)
      · exact d0
      simp only [Act.put, List.setIfInBounds_toArray, List.set_cons_zero, List.set_cons_succ]
      apply Till.take (i := 1) [1, 6, 7, 8]
      · simp only [List.getElem?_toArray, List.getElem?_cons_succ, List.getElem?_cons_zero]
        rfl
      · kernel_rfl
      · kernel_rfl
      · kernel_rfl
      · kernel_rfl
      · exact fun _ _ _ h => h
      · first
          | exact Or.inr ⟨by rfl, rfl⟩
          | (refine Or.inl ⟨by rfl, fun wq hwq => ?_⟩
             dsimp only at hwq
             go_simp
             first
               | done
               | rfl)
      · exact d0
      simp only [Act.put, List.setIfInBounds_toArray, List.set_cons_zero, List.set_cons_succ]
      apply Till.take (i := 2) [2, 4, 5, 6, 7, 8]
      · simp only [List.getElem?_toArray, List.getElem?_cons_succ, List.getElem?_cons_zero]
        rfl
      · kernel_rfl
      · kernel_rfl
      · kernel_rfl
      · kernel_rfl
      · exact fun _ _ _ h => h
      · first
          | exact Or.inr ⟨by rfl, rfl⟩
          | (refine Or.inl ⟨by rfl, fun wq hwq => ?_⟩
             dsimp only at hwq
             go_simp
             first
               | done
               | rfl)
      · exact d0
      simp only [Act.put, List.setIfInBounds_toArray, List.set_cons_zero, List.set_cons_succ]
      apply Till.take (i := 3) [3, 4, 5, 6, 7, 8]
      · simp only [List.getElem?_toArray, List.getElem?_cons_succ, List.getElem?_cons_zero]
        rfl
      · kernel_rfl
      · kernel_rfl
      · kernel_rfl
      · kernel_rfl
      · exact fun _ _ _ h => h
      · first
          | exact Or.inr ⟨by rfl, rfl⟩
          | (refine Or.inl ⟨by rfl, fun wq hwq => ?_⟩
             dsimp only at hwq
             go_simp
             first
               | done
               | rfl)
      · exact d0
      simp only [Act.put, List.setIfInBounds_toArray, List.set_cons_zero, List.set_cons_succ]
      apply Till.take (i := 4) [4, 5, 6, 7, 8]
      · simp only [List.getElem?_toArray, List.getElem?_cons_succ, List.getElem?_cons_zero]
        rfl
      · kernel_rfl
      · kernel_rfl
      · kernel_rfl
      · kernel_rfl
      · exact fun _ _ _ h => h
      · first
          | exact Or.inr ⟨by rfl, rfl⟩
          | (refine Or.inl ⟨by rfl, fun wq hwq => ?_⟩
             dsimp only at hwq
             go_simp
             first
               | done
               | rfl)
      · exact d0
      simp only [Act.put, List.setIfInBounds_toArray, List.set_cons_zero, List.set_cons_succ]
      apply Till.take (i := 5) [5, 6, 7, 8]
      · simp only [List.getElem?_toArray, List.getElem?_cons_succ, List.getElem?_cons_zero]
        rfl
      · kernel_rfl
      · kernel_rfl
      · kernel_rfl
      · kernel_rfl
      · exact fun _ _ _ h => h
      · first
          | exact Or.inr ⟨by rfl, rfl⟩
          | (refine Or.inl ⟨by rfl, fun wq hwq => ?_⟩
             dsimp only at hwq
             go_simp
             first
               | done
               | rfl)
      · exact d0
      simp only [Act.put, List.setIfInBounds_toArray, List.set_cons_zero, List.set_cons_succ]
      apply Till.one (i := 6)
      · kernel_rfl
      · simp only [List.getElem?_toArray, List.getElem?_cons_succ, List.getElem?_cons_zero]
        rfl
      intro K hK
      go_simp
      refine (spec_ans HUr.out.drew HY.out.drew HS1.out HB1.out.size (Nat.le_trans HN.out (by omega))).mono ?_
      rintro e' w5 ⟨v5, he, h5, hb5⟩
      subst he
      obtain ⟨L5, hL5⟩ : ∃ L, L = (ans d zs).length := ⟨_, rfl⟩
      obtain ⟨a5, c5, hv5, _⟩ := h5.open
      rw [← hL5] at hv5
      subst hv5
      have hb5' : Below wr.heap.size wr w5 := (Below.refl _ _).drew.trans hb5
      have hb6 := hb5'.alloc hb5'.size (.cells #[.slice a5 L5 c5] 22)
      have HB6 := Lib.hid hb6
      have h5' : Own 5 .u8 wr.heap.size w5 (.slice a5 L5 c5) (ans d zs) := h5
      have HR5 := Lib.hid (h5'.alloc (.cells #[.slice a5 L5 c5] 22))
      have HO5 := Lib.hid ((HO.out.next hb5').alloc (.cells #[.slice a5 L5 c5] 22))
      have HS5 := Lib.hid hb5'.size
      have d5 := HCs.out w5 hb5'
      have d6 := HCs.out _ hb6
      have HFn : Hid (∀ r, (Value.slice a5 L5 c5).ownBlock = some r → ¬ F r) := Lib.hid (fun r hr hFr => by have h1 := HF.out r hFr; have h2 := HR5.out.lt r hr; omega)
      have HFl : Hid (∀ b, F b → b < (w5.alloc (.cells #[.slice a5 L5 c5] 22)).heap.size) := Lib.hid (fun b hb => by have h1 := HF.out b hb; have h2 := HS5.out; simp; omega)
      clear h5 h5' hb5 hb5' hb6 hL5
      refine hK.out _ _ (Or.inr d5) ?_
      clear hK K
      try simp only [Act.put, List.setIfInBounds_toArray, List.set_cons_zero, List.set_cons_succ]
      apply Till.one (i := 7)
      · kernel_rfl
      · simp only [List.getElem?_toArray, List.getElem?_cons_succ, List.getElem?_cons_zero]
        rfl
      intro K hK
      go_simp
      skip
      refine hK.out _ _ (Or.inr d6) ?_
      clear hK K
      try simp only [Act.put, List.setIfInBounds_toArray, List.set_cons_zero, List.set_cons_succ]
      apply Till.one (i := 8)
      · kernel_rfl
      · simp only [List.getElem?_toArray, List.getElem?_cons_succ, List.getElem?_cons_zero]
        rfl
      intro K hK
      refine step_append_rowF _ (by rfl) _ _ 24 (by rfl) 22 5 i1 24 Try.underlying24 Hhi'.out hy0 hy1 hy2 (by omega) (by rfl) HO5.out HFl.out (by rfl) (cell_one_new _ _ _ 0 _ rfl) (HR5.out.mono (Nat.zero_le _)) HFn.out HLb.out ?_
      intro v7 w7 h7 hg7 hp7 hl7
      rw [HT.out] at h7
      have HK7 : Hid (KeptF F (w5.alloc (.cells #[.slice a5 L5 c5] 22)) w7) := Lib.hid (KeptF.of_grown hg7 (HO5.out.in_))
      have hBk7 : Below w1.heap.size (w5.alloc (.cells #[.slice a5 L5 c5] 22)) w7 := HK7.out.below (fun b hb => (HF.out b hb).1) (by have h1 := HB1.out.size; have h2 := HS5.out; simp; omega)
      have hBw : Below w1.heap.size wr w7 := (HB6.out.mono HB1.out.size).trans hBk7
      have HBw := Lib.hid hBw
      have H7 := Lib.hid h7
      have HP7 := Lib.hid hp7
      have HL7 := Lib.hid hl7
      have hF7 : ∀ b, (F b ∨ (Value.slice a5 L5 c5).ownBlock = some b ∨ v7.ownBlock = some b) → w1.heap.size ≤ b ∧ b < w7.heap.size := fun b hb => by
        have h1 := HK7.out.size
        have h2 := HS5.out
        have h3 := HB1.out.size
        have h9 : (w5.alloc (.cells #[.slice a5 L5 c5] 22)).heap.size = w5.heap.size + 1 := by simp
        rcases hb with hb | hb | hb
        · have := HF.out b hb; omega
        · have h4 := HR5.out.lt b hb
          omega
        · have h4 := HL7.out b hb
          rcases HP7.out with h5 | h5
          · rw [h5] at hb
            have := HF.out b (HO5.out.in_ b hb)
            omega
          · rw [h5, World.size_alloc] at hb
            injection hb with hb
            omega
      have HF7 := Lib.hid hF7
      clear h7 hg7 hp7 hl7 hBw hBk7 hF7
      refine hK.out _ _ (Or.inl (by rfl)) ?_
      clear hK K
      try simp only [Act.put, List.setIfInBounds_toArray, List.set_cons_zero, List.set_cons_succ]
      apply Till.one (i := 9)
      · kernel_rfl
      · simp only [List.getElem?_toArray, List.getElem?_cons_succ, List.getElem?_cons_zero]
        rfl
      intro K hK
      go_simp
      skip
      refine hK.out _ _ (Or.inl (by rfl)) ?_
      clear hK K
      try simp only [Act.put, List.setIfInBounds_toArray, List.set_cons_zero, List.set_cons_succ]
      refine Till.done (by kernel_rfl) ?_ _
      clear d0 d5 d6 cD cy
      go_wp2_with fail
      go_roundw
      case rel => exact ⟨j + 1, _, by simp, hlt, H7.out, HF7.out, HB1.out.trans HBw.out⟩
      case measure => simp [intOf]; omega
    · have e2 : decide ((j : Int) < (Q.length : Int)) = false := by simp; omega
      have HEq : Hid (answers d (Q.take j) = answers d Q) := Lib.hid (by rw [List.take_of_length_le (by omega)])
      have HT : Hid (tot (answers d Q) ≤ 1099511627776) := Lib.hid (by have h1 := answers_tot d Q HQ4; have h2 := HN.out; unfold tot at h2; omega)
      rw [HEq.out] at HO
      have HRd := Lib.hid HO.out.rd2
      have HBr := Lib.hid (HB.out.trans (HB1.out.mono HB.out.size))
      go_wp2_with fail
      refine (spec_ca HRd.out (Nat.le_refl _) HT.out).mono ?_
      rw [← HRp.out.1, ← HRp.out.2]
      rintro e w8 ⟨v8, rfl, h8, hb8⟩
      have H8 := Lib.hid (h8.mono HBr.out.size)
      have HB8 := Lib.hid (HBr.out.trans (hb8.mono HBr.out.size))
      clear h8 hb8
      go_wp2_with fail
      go_ret2
      exact ⟨_, rfl, H8.out, HB8.out⟩

end Go.Proofs.Ytigeghmkkppldaa
