/- NewDatabase, the document's: what it gives. No conditions. -/
import Derived.Test.YtigeghmkkppldaaDb2
namespace Go.Proofs.Ytigeghmkkppldaa
open Go Go.RowKit
set_option linter.unusedVariables false
attribute [local irreducible] kh

set_option maxHeartbeats 2000000 in
/-- spec.NewDatabase -/
theorem spec_new {w : World} {n : Int} (hn : (Lit.int .i64 n).wf = true) :
    Calls Try.prog 80 #[.int .i64 n] w fun e w' => ∃ v', e = .returned (.agg #[v']) ∧ Own2 22 5 .u8 (ival w.heap.size w'.heap.size) w' v' (newR n) ∧ Below w.heap.size w w' := by
  obtain ⟨i0, hi, hz0, hz1, hz2⟩ := info_parts infou8
  obtain ⟨i1, hi', hy0, hy1, hy2⟩ := info_parts infou8s
  have Hhi := Lib.hid hi
  have Hhi' := Lib.hid hi'
  have HW := Lib.hid hn
  have HB := Lib.hid (((Below.refl w.heap.size w).alloc (Nat.le_refl _) (.cells #[.slice none 0 0] 26)).alloc (by simp) (.cells #[.slice none 0 0] 26))
  have hbl := blocks2 w (.cells #[.slice none 0 0] 26) (.cells #[.slice none 0 0] 26)
  have HR := Lib.hid hbl.1
  have HD := Lib.hid hbl.2
  have cR := blk_cell hbl.1 0
  have cD := blk_cell hbl.2 0
  have fR := blk_free hbl.1 0
  rw [one0] at cR cD
  clear hn hi hi' hbl
  by_cases hin : 0 ≤ n ∧ n ≤ 64
  · obtain ⟨N, rfl⟩ : ∃ N : Nat, n = (N : Int) := ⟨n.toNat, by omega⟩
    have hN : N ≤ 64 := by omega
    have e0 : decide ((N : Int) ≤ 64) = true := by simp; omega
    have HE : Hid (newR (N : Int) = List.replicate N (List.replicate 24 0)) := Lib.hid (newR_yes hN)
    clear hin cR cD fR
    go_enter Try.func80, Try.ntmps80
    go_wp2_with fail
    go_loopw [4] (fun i wr => ∃ (j : Nat) (v : Value) (F : Nat → Prop), i = .int .i64 j ∧ j ≤ N ∧ Own2 22 5 .u8 F wr v (List.replicate j (List.replicate 24 0)) ∧
      (∀ b, F b → w.heap.size + 2 ≤ b ∧ b < wr.heap.size) ∧ wr.heap[w.heap.size]? = some (.cells #[.slice none 0 0] 26) ∧ wr.heap[w.heap.size + 1]? = some (.cells #[v] 26) ∧ Below w.heap.size w wr) (fun i _ => N - (intOf i).toNat)
    case atStart => exact ⟨0, _, fun _ => False, rfl, Nat.zero_le _, Own2.nil _ _ _ _ _, fun b hb => hb.elim, HR.out, HD.out, HB.out⟩
    case round =>
      obtain ⟨j, v, F, rfl, hj, hO, hF, hR, hD, hB⟩ := hrel
      replace HR := Lib.hid hR
      replace HD := Lib.hid hD
      replace HB := Lib.hid hB
      obtain ⟨a, cap, rfl, _⟩ := hO.open
      rw [List.length_replicate] at hO hD HD
      have HO := Lib.hid hO
      have HF := Lib.hid hF
      have cD := blk_cell hD 0
      have fD := blk_free hD 0
      rw [one0] at cD
      have HSd := Lib.hid (lt_of_block hD)
      clear hO hF hR hD hB
      by_cases hlt : j < N
      · have e1 : decide ((j : Int) < (N : Int)) = true := by simp; omega
        have d0 : wr.drew.cell? ⟨w.heap.size + 1, 0, none⟩ = some (.slice a j cap) := cD
        obtain ⟨w5, hrun, ho5, hg5⟩ := run_make_full (P := Try.prog) wr.drew wr.drew.heap.size 22 5 i0 (.int .u8 0) 1 Try.underlying22 Hhi.out hz0 hz1 .i64 .i64 24 (by rw [hz2]; omega) (by unfold maxLen; omega) (Nat.le_refl _)
        have hm5 : (Instr.makeSlice 22 (.int .i64 24) (.int .i64 24)).run Try.prog wr.drew = .ok (.slice (some ⟨wr.heap.size, 0, none⟩) 24 24) w5 := hrun
        have hr5 := own_made ho5 hg5.size (by decide)
        have hb5 := (Below.refl wr.drew.heap.size wr.drew).grown hg5 (Nat.le_refl _) (fun k hk => by cases hk)
        have hr5' : Own 5 .u8 wr.heap.size w5 (.slice (some ⟨wr.heap.size, 0, none⟩) 24 24) (List.replicate 24 0) := hr5
        have HR5 := Lib.hid (hr5'.alloc (.cells #[.slice (some ⟨wr.heap.size, 0, none⟩) 24 24] 22))
        have HO5 := Lib.hid ((HO.out.drew.next hb5).alloc (.cells #[.slice (some ⟨wr.heap.size, 0, none⟩) 24 24] 22))
        have hb6 : Below wr.heap.size wr (w5.alloc (.cells #[.slice (some ⟨wr.heap.size, 0, none⟩) 24 24] 22)) := (Below.refl _ _).drew.trans (hb5.alloc hb5.size _)
        have HB6 := Lib.hid hb6
        have HS5 : Hid (wr.heap.size ≤ w5.heap.size) := Lib.hid hb5.size
        have d5 : w5.cell? ⟨w.heap.size + 1, 0, none⟩ = some (.slice a j cap) := (hb5.cell (p := ⟨w.heap.size + 1, 0, none⟩) HSd.out).trans d0
        have d6 : (w5.alloc (.cells #[.slice (some ⟨wr.heap.size, 0, none⟩) 24 24] 22)).cell? ⟨w.heap.size + 1, 0, none⟩ = some (.slice a j cap) := (hb6.cell (p := ⟨w.heap.size + 1, 0, none⟩) HSd.out).trans cD
        have HLb : Hid (((List.replicate j (List.replicate 24 (0 : Int))).length + 1) * 24 ≤ 140737488355328) := Lib.hid (by rw [List.length_replicate]; omega)
        have HFn : Hid (∀ r, (Value.slice (some ⟨wr.heap.size, 0, none⟩) 24 24).ownBlock = some r → ¬ F r) := Lib.hid (fun r hr hFr => by have h1 := HF.out r hFr; have h2 := HR5.out.lt r hr; omega)
        have HFl : Hid (∀ b, F b → b < (w5.alloc (.cells #[.slice (some ⟨wr.heap.size, 0, none⟩) 24 24] 22)).heap.size) := Lib.hid (fun b hb => by have h1 := HF.out b hb; have h2 := HS5.out; simp; omega)
        clear ho5 hg5 hr5 hr5' hb5 hb6 hrun
        go_wp2_with fail
        refine region_till (fun w' => w'.cell? ⟨w.heap.size + 1, 0, none⟩ = some (.slice a j cap)) 6 (by kernel_rfl) ?_
        apply Till.take (i := 0) [0, 1, 4, 6]
        · simp only [List.getElem?_toArray, List.getElem?_cons_zero]
          rfl
        · kernel_rfl
        · kernel_rfl
        · kernel_rfl
        · kernel_rfl
        · exact fun _ _ _ h => h
        · first
            | exact Or.inr ⟨by rfl, rfl⟩
            | (refine Or.inl ⟨by rfl, fun wq hwq => ?_⟩
               dsimp only at hwq
               go_simp
               first
                 | done
                 | rfl)
        · exact d0
        simp only [Act.put, List.setIfInBounds_toArray, List.set_cons_zero, List.set_cons_succ]
        apply Till.take (i := 1) [1, 4, 6]
        · simp only [List.getElem?_toArray, List.getElem?_cons_succ, List.getElem?_cons_zero]
          rfl
        · kernel_rfl
        · kernel_rfl
        · kernel_rfl
        · kernel_rfl
        · exact fun _ _ _ h => h
        · first
            | exact Or.inr ⟨by rfl, rfl⟩
            | (refine Or.inl ⟨by rfl, fun wq hwq => ?_⟩
               dsimp only at hwq
               go_simp
               first
                 | done
                 | rfl)
        · exact d0
        simp only [Act.put, List.setIfInBounds_toArray, List.set_cons_zero, List.set_cons_succ]
        apply Till.one (i := 2)
        · kernel_rfl
        · simp only [List.getElem?_toArray, List.getElem?_cons_succ, List.getElem?_cons_zero]
          rfl
        intro K hK
        go_simp
        skip
        refine hK.out _ _ (Or.inr d5) ?_
        clear hK K
        try simp only [Act.put, List.setIfInBounds_toArray, List.set_cons_zero, List.set_cons_succ]
        apply Till.one (i := 3)
        · kernel_rfl
        · simp only [List.getElem?_toArray, List.getElem?_cons_succ, List.getElem?_cons_zero]
          rfl
        intro K hK
        go_simp
        skip
        refine hK.out _ _ (Or.inr d6) ?_
        clear hK K
        try simp only [Act.put, List.setIfInBounds_toArray, List.set_cons_zero, List.set_cons_succ]
        apply Till.one (i := 4)
        · kernel_rfl
        · simp only [List.getElem?_toArray, List.getElem?_cons_succ, List.getElem?_cons_zero]
          rfl
        intro K hK
        refine step_append_rowF _ (by rfl) _ _ 24 (by rfl) 22 5 i1 24 Try.underlying24 Hhi'.out hy0 hy1 hy2 (by omega) (by rfl) HO5.out HFl.out (by rfl) (cell_one_new _ _ _ 0 _ rfl) (HR5.out.mono (Nat.zero_le _)) HFn.out HLb.out ?_
        intro v7 w7 h7 hg7 hp7 hl7
        rw [show List.replicate j (List.replicate 24 (0 : Int)) ++ [List.replicate 24 0] = List.replicate (j + 1) (List.replicate 24 0) from List.replicate_succ'.symm] at h7
        have HK7 : Hid (KeptF F (w5.alloc (.cells #[.slice (some ⟨wr.heap.size, 0, none⟩) 24 24] 22)) w7) := Lib.hid (KeptF.of_grown hg7 (HO5.out.in_))
        have hnF : ¬ F (w.heap.size + 1) := fun h => by have := HF.out _ h; omega
        have hnF0 : ¬ F w.heap.size := fun h => by have := HF.out _ h; omega
        have hD7 := (HK7.out.block (w.heap.size + 1) (by have h1 := HSd.out; have h2 := HS5.out; simp; omega) hnF).trans ((HB6.out.block (w.heap.size + 1) HSd.out).trans HD.out)
        have hR7 := (HK7.out.block w.heap.size (by have h1 := HSd.out; have h2 := HS5.out; simp; omega) hnF0).trans ((HB6.out.block w.heap.size (by have h1 := HSd.out; omega)).trans HR.out)
        have d7 := blk_cell hD7 0
        have f7 := blk_free hD7 0
        rw [one0] at d7
        have HD7 := Lib.hid hD7
        have HR7 := Lib.hid hR7
        have H7 := Lib.hid h7
        have HP7 := Lib.hid hp7
        have HL7 := Lib.hid hl7
        have hF7 : ∀ b, (F b ∨ (Value.slice (some ⟨wr.heap.size, 0, none⟩) 24 24).ownBlock = some b ∨ v7.ownBlock = some b) → w.heap.size + 2 ≤ b ∧ b < w7.heap.size := fun b hb => by
          have h1 := HK7.out.size
          have h2 := HS5.out
          have h3 := HSd.out
          rw [World.size_alloc] at h1
          rcases hb with hb | hb | hb
          · have := HF.out b hb; omega
          · have h4 : wr.heap.size = b := by injection hb
            omega
          · have h4 := HL7.out b hb
            rcases HP7.out with h5 | h5
            · rw [h5] at hb
              have := HF.out b (HO5.out.in_ b hb)
              omega
            · rw [h5, World.size_alloc] at hb
              injection hb with hb
              omega
        have HF7 := Lib.hid hF7
        obtain ⟨a7, c7, hv7, _⟩ := h7.open
        rw [List.length_replicate] at hv7
        subst hv7
        clear h7 hg7 hp7 hl7 hnF hnF0 hD7 hR7 hF7
        refine hK.out _ _ (Or.inr d7) ?_
        clear hK K
        try simp only [Act.put, List.setIfInBounds_toArray, List.set_cons_zero, List.set_cons_succ]
        apply Till.take (i := 5) [5, 6]
        · simp only [List.getElem?_toArray, List.getElem?_cons_succ, List.getElem?_cons_zero]
          rfl
        · kernel_rfl
        · kernel_rfl
        · kernel_rfl
        · kernel_rfl
        · exact fun _ _ _ h => h
        · first
            | exact Or.inr ⟨by rfl, rfl⟩
            | (refine Or.inl ⟨by rfl, fun wq hwq => ?_⟩
               dsimp only at hwq
               go_simp
               first
                 | done
                 | rfl)
        · exact d7
        simp only [Act.put, List.setIfInBounds_toArray, List.set_cons_zero, List.set_cons_succ]
        apply Till.one (i := 6)
        · kernel_rfl
        · simp only [List.getElem?_toArray, List.getElem?_cons_succ, List.getElem?_cons_zero]
          rfl
        intro K hK
        go_simp
        skip
        refine hK.out _ _ (Or.inl (by rfl)) ?_
        clear hK K
        try simp only [Act.put, List.setIfInBounds_toArray, List.set_cons_zero, List.set_cons_succ]
        refine Till.done (by kernel_rfl) ?_ _
        have hlt7 := lt_of_block HD7.out
        obtain ⟨hD8, _, k8⟩ := store1 HD7.out (.slice a7 (j + 1) c7)
        obtain ⟨W8, hW8⟩ : ∃ W8, W8 = w7.setCell ⟨w.heap.size + 1, 0, none⟩ (.slice a7 (j + 1) c7) := ⟨_, rfl⟩
        rw [← hW8] at hD8 k8 ⊢
        have hs8 : W8.heap.size = w7.heap.size := by rw [hW8, World.setCell_size]
        have HD8 := Lib.hid hD8
        have HK8 := Lib.hid k8
        have HS8 := Lib.hid hs8
        have HR8 := Lib.hid ((k8.block w.heap.size (by omega) (by simp)).trans HR7.out)
        clear hD8 k8 hs8 hW8 d7 f7 d6 d5 d0 cD fD hlt7
        go_wp2_with fail
        go_roundw
        case rel =>
          have hBw : Below w.heap.size w wr := HB.out
          refine ⟨j + 1, _, _, by simp, hlt, H7.out.keptF HK8.out (fun b hb => by have := HF7.out b hb; omega), fun b hb => by rw [HS8.out]; exact HF7.out b hb, HR8.out, HD8.out, ?_⟩
          refine (hBw.trans ((HB6.out).mono hBw.size)).trans ((HK7.out.below (B := w.heap.size) (fun b hb => by have := HF.out b hb; omega) (by have h1 := HB6.out.size; have h2 := hBw.size; omega)).trans (HK8.out.below (B := w.heap.size) (fun b hb => by omega) (by have h1 := HB6.out.size; have h2 := HK7.out.size; have h3 := hBw.size; omega)))
        case measure => simp [intOf]; omega
      · have e1 : decide ((j : Int) < (N : Int)) = false := by simp; omega
        have cR := blk_cell HR.out 0
        have fR := blk_free HR.out 0
        rw [one0] at cR
        have HE2 : Hid (List.replicate j (List.replicate 24 (0 : Int)) = newR (N : Int)) := Lib.hid (by rw [HE.out, show j = N by omega])
        go_wp2_with fail
        obtain ⟨_, r0, k0⟩ := store1 HR.out (.slice a j cap)
        obtain ⟨W6, hW6⟩ : ∃ W6, W6 = wr.setCell ⟨w.heap.size, 0, none⟩ (.slice a j cap) := ⟨_, rfl⟩
        rw [← hW6] at r0 k0 ⊢
        have hs6 : W6.heap.size = wr.heap.size := by rw [hW6, World.setCell_size]
        have Q1 := Lib.hid ((HO.out.keptF k0 (fun b hb => by have := HF.out b hb; omega)).mono (G := ival w.heap.size W6.heap.size) (fun b hb => by have := HF.out b hb; unfold ival; omega))
        rw [HE2.out] at Q1
        have Q2 := Lib.hid (HB.out.trans (k0.below (B := w.heap.size) (fun b hb => by omega) HB.out.size))
        clear cR fR cD fD k0 hW6 hs6
        exact bodyPost_ret (v := .agg #[.slice a j cap]) (by simp [results, Try.results80, go_sem, r0]) rfl ⟨_, rfl, Q1.out, Q2.out⟩
  · have HE : Hid (newR n = []) := Lib.hid (newR_no hin)
    have hB := HB.out
    by_cases hpos : 0 < n
    · have e1 : decide (0 < n) = true := by simp; omega
      have e2 : decide (n ≤ 64) = false := by simp; omega
      clear hin hpos hB
      go_enter Try.func80, Try.ntmps80
      go_wp2_with fail
      go_loopw [4] (fun i wr => i = .int .i64 0 ∧ wr = (w.alloc (.cells #[.slice none 0 0] 26)).alloc (.cells #[.slice none 0 0] 26)) (fun i _ => 0)
      case atStart => exact ⟨rfl, rfl⟩
      case round =>
        obtain ⟨rfl, rfl⟩ := hrel
        go_wp2_with fail
        exact bodyPost_ret (v := .agg #[.slice none 0 0]) (by simp [results, Try.results80, go_sem, cR]) rfl ⟨_, rfl, by rw [HE.out]; exact Own2.nil _ _ _ _ _, HB.out⟩
    · have e1 : decide (0 < n) = false := by simp; omega
      clear hin hpos hB
      go_enter Try.func80, Try.ntmps80
      go_wp2_with fail
      go_loopw [4] (fun i wr => i = .int .i64 0 ∧ wr = (w.alloc (.cells #[.slice none 0 0] 26)).alloc (.cells #[.slice none 0 0] 26)) (fun i _ => 0)
      case atStart => exact ⟨rfl, rfl⟩
      case round =>
        obtain ⟨rfl, rfl⟩ := hrel
        go_wp2_with fail
        exact bodyPost_ret (v := .agg #[.slice none 0 0]) (by simp [results, Try.results80, go_sem, cR]) rfl ⟨_, rfl, by rw [HE.out]; exact Own2.nil _ _ _ _ _, HB.out⟩

end Go.Proofs.Ytigeghmkkppldaa
