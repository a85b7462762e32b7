/- Chapter 8's draws. No conditions. -/
import Derived.Test.YtigeghmkkppldaaDrawX
import Derived.Test.YtigeghmkkppldaaDb3
namespace Go.Proofs.Ytigeghmkkppldaa
open Go Go.RowKit
set_option linter.unusedVariables false
attribute [local irreducible] kh

theorem grown_drew (w : World) (r : Option Nat) : w.grownBy w.drew r := ⟨rfl, rfl, rfl, Nat.le_refl _, fun _ _ _ => rfl⟩
theorem Cur.drew {B b : Nat} {w : World} (h : Cur B b w) : Cur B b w.drew := by
  obtain ⟨a, len, cap, zs, i, q, h1, h2, h3, h4⟩ := h
  exact ⟨a, len, cap, zs, i, q, h1, h2, h3, h4.behind (Below.refl _ _).drew⟩
/-- Behind a store into a block of its own. -/
theorem Cur.stored {B b c : Nat} {w : World} (h : Cur B b w) (hne : c ≠ b) (hB : B ≤ c) (u : Value) : Cur B b (w.setCell ⟨c, 0, none⟩ u) :=
  h.kept (grown_set w c 0 u) (fun e => hne (by injection e)) (fun r hr => by injection hr with hr; omega)

set_option maxHeartbeats 2000000 in
set_option maxRecDepth 20000 in
/-- spec.l8Database: rows of cells. -/
theorem db_any (B b : Nat) (N : Nat) (w : World) (h : Cur B b w) (hN : N ≤ 64) :
    Calls Try.prog 78 #[.pointer (some ⟨b, 0, none⟩), .int .i64 (N : Int)] w fun e w' => ∃ v zss, e = .returned (.agg #[v]) ∧ Own2 22 5 .u8 (ival w.heap.size w'.heap.size) w' v zss ∧ zss.length = N ∧ (∀ (i : Nat) (zs : List Int), zss[i]? = some zs → zs.length = 24) ∧ Cur B b w' ∧ w.grownBy w' (some b) := by
  obtain ⟨i1, hi', hy0, hy1, hy2⟩ := info_parts infou8s
  have Hhi' := Lib.hid hi'
  have HLt := Lib.hid h.lt
  have hbl := blocks2 w (.cells #[.slice none 0 0] 26) (.cells #[.slice none 0 0] 26)
  have HR := Lib.hid hbl.1
  have HD := Lib.hid hbl.2
  have HC := Lib.hid ((h.alloc (.cells #[.slice none 0 0] 26)).alloc (.cells #[.slice none 0 0] 26))
  have HG := Lib.hid (grown_trans (World.grownBy_alloc w (.cells #[.slice none 0 0] 26) (some b)) (World.grownBy_alloc _ (.cells #[.slice none 0 0] 26) (some b)))
  clear h hi' hbl
  go_enter Try.func78, Try.ntmps78
  go_wp2_with fail
  go_loopw [6] (fun i wr => ∃ (j : Nat) (v : Value) (zss : List (List Int)) (F : Nat → Prop), i = .int .i64 j ∧ j ≤ N ∧ zss.length = j ∧ (∀ (i : Nat) (zs : List Int), zss[i]? = some zs → zs.length = 24) ∧ Own2 22 5 .u8 F wr v zss ∧
    (∀ c, F c → w.heap.size + 2 ≤ c ∧ c < wr.heap.size) ∧ wr.heap[w.heap.size]? = some (.cells #[.slice none 0 0] 26) ∧ wr.heap[w.heap.size + 1]? = some (.cells #[v] 26) ∧ Cur B b wr ∧ w.grownBy wr (some b)) (fun i _ => N - (intOf i).toNat)
  case atStart => exact ⟨0, _, [], fun _ => False, rfl, Nat.zero_le _, rfl, fun i zs hz => by simp at hz, Own2.nil _ _ _ _ _, fun b hb => hb.elim, HR.out, HD.out, HC.out, HG.out⟩
  case round =>
    obtain ⟨j, v, zss, F, rfl, hj, hl, hr24, hO, hF, hR, hD, hC, hG⟩ := hrel
    replace HR := Lib.hid hR
    replace HD := Lib.hid hD
    replace HC := Lib.hid hC
    replace HG := Lib.hid hG
    have HL := Lib.hid hl
    have H24 := Lib.hid hr24
    obtain ⟨a, cap, rfl, _⟩ := hO.open
    rw [hl] at hO hD HD
    have HO := Lib.hid hO
    have HF := Lib.hid hF
    have cD := blk_cell hD 0
    have fD := blk_free hD 0
    rw [one0] at cD
    have HSd := Lib.hid (lt_of_block hD)
    clear hO hF hR hD hC hG hl hr24
    by_cases hlt : j < N
    · have e1 : decide ((j : Int) < (N : Int)) = true := by simp; omega
      have d0 : wr.drew.cell? ⟨w.heap.size + 1, 0, none⟩ = some (.slice a j cap) := cD
      have HLb : Hid ((zss.length + 1) * 24 ≤ 140737488355328) := Lib.hid (by have := HL.out; omega)
      go_wp2_with fail
      refine region_till (fun w' => w'.cell? ⟨w.heap.size + 1, 0, none⟩ = some (.slice a j cap)) 7 (by kernel_rfl) ?_
      apply Till.take (i := 0) [0, 1, 5, 7]
      · simp only [List.getElem?_toArray, List.getElem?_cons_zero]
        rfl
      · kernel_rfl
      · kernel_rfl
      · kernel_rfl
      · kernel_rfl
      · exact fun _ _ _ h => h
      · first
          | exact Or.inr ⟨by rfl, rfl⟩
          | (refine Or.inl ⟨by rfl, fun wq hwq => ?_⟩
             dsimp only at hwq
             go_simp
             first
               | done
               | rfl)
      · exact d0
      simp only [Act.put, List.setIfInBounds_toArray, List.set_cons_zero, List.set_cons_succ]
      apply Till.take (i := 1) [1, 5, 7]
      · simp only [List.getElem?_toArray, List.getElem?_cons_succ, List.getElem?_cons_zero]
        rfl
      · kernel_rfl
      · kernel_rfl
      · kernel_rfl
      · kernel_rfl
      · exact fun _ _ _ h => h
      · first
          | exact Or.inr ⟨by rfl, rfl⟩
          | (refine Or.inl ⟨by rfl, fun wq hwq => ?_⟩
             dsimp only at hwq
             go_simp
             first
               | done
               | rfl)
      · exact d0
      simp only [Act.put, List.setIfInBounds_toArray, List.set_cons_zero, List.set_cons_succ]
      apply Till.take (i := 2) [2, 3, 4, 5, 7]
      · simp only [List.getElem?_toArray, List.getElem?_cons_succ, List.getElem?_cons_zero]
        rfl
      · kernel_rfl
      · kernel_rfl
      · kernel_rfl
      · kernel_rfl
      · exact fun _ _ _ h => h
      · first
          | exact Or.inr ⟨by rfl, rfl⟩
          | (refine Or.inl ⟨by rfl, fun wq hwq => ?_⟩
             dsimp only at hwq
             go_simp
             first
               | done
               | rfl)
      · exact d0
      simp only [Act.put, List.setIfInBounds_toArray, List.set_cons_zero, List.set_cons_succ]
      apply Till.one (i := 3)
      · kernel_rfl
      · simp only [List.getElem?_toArray, List.getElem?_cons_succ, List.getElem?_cons_zero]
        rfl
      intro K hK
      go_simp
      refine (bytes_any B b 24 wr.drew HC.out.drew (by omega)).mono ?_
      rintro e' w5 ⟨v5, zs, he, hO5, q1, q2, hc5, hg5⟩
      subst he
      obtain ⟨L5, hL5⟩ : ∃ L, L = zs.length := ⟨_, rfl⟩
      obtain ⟨a5, c5, hv5, _⟩ := hO5.open
      rw [← hL5] at hv5
      subst hv5
      have HLz := Lib.hid (show 24 ≤ zs.length ∧ zs.length ≤ 24 from ⟨by omega, by omega⟩)
      have hg5' := grown_trans (grown_drew wr (some b)) hg5
      have HS5 : Hid (wr.heap.size ≤ w5.heap.size) := Lib.hid hg5.size
      have hk5 : KeptF (fun c => c = b) wr w5 := KeptF.of_grown hg5' (fun c hc => by injection hc with hc; exact hc.symm)
      have HO5 := Lib.hid ((HO.out.keptF hk5 (fun c hc hcb => by have := HF.out c hc; have := HLt.out; omega)).alloc (.cells #[.slice a5 L5 c5] 22))
      have hr5 : Own 5 .u8 wr.heap.size w5 (.slice a5 L5 c5) zs := hO5
      have HR5 := Lib.hid (hr5.alloc (.cells #[.slice a5 L5 c5] 22))
      have hD5 := (hk5.block (w.heap.size + 1) HSd.out (by have := HLt.out; omega)).trans HD.out
      have hR5' := (hk5.block w.heap.size (by have := HSd.out; omega) (by have := HLt.out; omega)).trans HR.out
      have HD6 := Lib.hid ((heap_alloc_old w5 (.cells #[.slice a5 L5 c5] 22) (lt_of_block hD5)).trans hD5)
      have HR6 := Lib.hid ((heap_alloc_old w5 (.cells #[.slice a5 L5 c5] 22) (lt_of_block hR5')).trans hR5')
      have HC6 := Lib.hid (hc5.alloc (.cells #[.slice a5 L5 c5] 22))
      have HG6 := Lib.hid (grown_trans HG.out (grown_trans hg5' (World.grownBy_alloc w5 (.cells #[.slice a5 L5 c5] 22) (some b))))
      have d5 : w5.cell? ⟨(w.heap.size + 1), 0, none⟩ = some (.slice a j cap) := (blk_cell hD5 0).trans (one0 _)
      have d6 : (w5.alloc (.cells #[.slice a5 L5 c5] 22)).cell? ⟨(w.heap.size + 1), 0, none⟩ = some (.slice a j cap) := (blk_cell HD6.out 0).trans (one0 _)
      have HFn : Hid (∀ r, (Value.slice a5 L5 c5).ownBlock = some r → ¬ F r) := Lib.hid (fun r hr hFr => by have h1 := HF.out r hFr; have h2 := HR5.out.lt r hr; have h8 := HSd.out; omega)
      have HFl : Hid (∀ c, F c → c < (w5.alloc (.cells #[.slice a5 L5 c5] 22)).heap.size) := Lib.hid (fun c hc => by have h1 := HF.out c hc; have h2 := HS5.out; have h8 := HSd.out; simp; omega)
      clear hO5 hc5 hg5 hg5' hk5 hr5 hD5 hR5' q1 q2 hL5
      refine hK.out _ _ (Or.inr d5) ?_
      clear hK K
      try simp only [Act.put, List.setIfInBounds_toArray, List.set_cons_zero, List.set_cons_succ]
      apply Till.one (i := 4)
      · kernel_rfl
      · simp only [List.getElem?_toArray, List.getElem?_cons_succ, List.getElem?_cons_zero]
        rfl
      intro K hK
      go_simp
      skip
      refine hK.out _ _ (Or.inr d6) ?_
      clear hK K
      try simp only [Act.put, List.setIfInBounds_toArray, List.set_cons_zero, List.set_cons_succ]
      apply Till.one (i := 5)
      · kernel_rfl
      · simp only [List.getElem?_toArray, List.getElem?_cons_succ, List.getElem?_cons_zero]
        rfl
      intro K hK
      refine step_append_rowF _ (by rfl) _ _ 24 (by rfl) 22 5 i1 24 Try.underlying24 Hhi'.out hy0 hy1 hy2 (by omega) (by rfl) HO5.out HFl.out (by rfl) (cell_one_new _ _ _ 0 _ rfl) (HR5.out.mono (Nat.zero_le _)) HFn.out HLb.out ?_
      intro v7 w7 h7 hg7 hp7 hl7
      have hin := HO5.out.in_
      have hk7 : KeptF F (w5.alloc (.cells #[.slice a5 L5 c5] 22)) w7 := KeptF.of_grown hg7 hin
      have HC7 := Lib.hid (HC6.out.kept hg7 (fun e => by have := HF.out b (hin b e); have := HLt.out; omega) (fun r hr => by have := HF.out r (hin r hr); have := HLt.out; omega))
      have HG7 := Lib.hid (grown_own HG6.out hg7 (fun r hr => by have := HF.out r (hin r hr); omega))
      have HD7 := Lib.hid ((hk7.block (w.heap.size + 1) (lt_of_block HD6.out) (fun h => by have := HF.out _ h; omega)).trans HD6.out)
      have HR7 := Lib.hid ((hk7.block w.heap.size (lt_of_block HR6.out) (fun h => by have := HF.out _ h; omega)).trans HR6.out)
      have d7 := blk_cell HD7.out 0
      have f7 := blk_free HD7.out 0
      rw [one0] at d7
      have HS7 := Lib.hid hk7.size
      have H7 := Lib.hid h7
      have HP7 := Lib.hid hp7
      have HL7 := Lib.hid hl7
      have HF7 : Hid (∀ c, (F c ∨ (Value.slice a5 L5 c5).ownBlock = some c ∨ v7.ownBlock = some c) → w.heap.size + 2 ≤ c ∧ c < w7.heap.size) := Lib.hid (fun c hc => by
        have h1 := HS7.out
        have h2 := HS5.out
        have h3 := HSd.out
        have h9 : (w5.alloc (.cells #[.slice a5 L5 c5] 22)).heap.size = w5.heap.size + 1 := by simp
        rcases hc with hc | hc | hc
        · have := HF.out c hc; omega
        · have h4 := HR5.out.lt c hc; omega
        · have h4 := HL7.out c hc
          rcases HP7.out with h5 | h5
          · rw [h5] at hc
            have := HF.out c (HO5.out.in_ c hc)
            omega
          · rw [h5, World.size_alloc] at hc
            injection hc with hc
            omega)
      obtain ⟨a7, c7, hv7, _⟩ := h7.open
      rw [List.length_append, HL.out] at hv7
      simp only [List.length_cons, List.length_nil, Nat.zero_add] at hv7
      subst hv7
      clear h7 hg7 hp7 hl7 hin hk7
      refine hK.out _ _ (Or.inr d7) ?_
      clear hK K
      try simp only [Act.put, List.setIfInBounds_toArray, List.set_cons_zero, List.set_cons_succ]
      apply Till.take (i := 6) [6, 7]
      · simp only [List.getElem?_toArray, List.getElem?_cons_succ, List.getElem?_cons_zero]
        rfl
      · kernel_rfl
      · kernel_rfl
      · kernel_rfl
      · kernel_rfl
      · exact fun _ _ _ h => h
      · first
          | exact Or.inr ⟨by rfl, rfl⟩
          | (refine Or.inl ⟨by rfl, fun wq hwq => ?_⟩
             dsimp only at hwq
             go_simp
             first
               | done
               | rfl)
      · exact d7
      simp only [Act.put, List.setIfInBounds_toArray, List.set_cons_zero, List.set_cons_succ]
      apply Till.one (i := 7)
      · kernel_rfl
      · simp only [List.getElem?_toArray, List.getElem?_cons_succ, List.getElem?_cons_zero]
        rfl
      intro K hK
      go_simp
      skip
      refine hK.out _ _ (Or.inl (by rfl)) ?_
      clear hK K
      try simp only [Act.put, List.setIfInBounds_toArray, List.set_cons_zero, List.set_cons_succ]
      refine Till.done (by kernel_rfl) ?_ _
      obtain ⟨hD8, _, k8⟩ := store1 HD7.out (.slice a7 (j + 1) c7)
      have HC8 := Lib.hid (HC7.out.stored (c := w.heap.size + 1) (by have := HLt.out; omega) (by have := HLt.out; omega) (.slice a7 (j + 1) c7))
      have HG8 := Lib.hid (grown_own HG7.out (grown_set w7 (w.heap.size + 1) 0 (.slice a7 (j + 1) c7)) (fun r hr => by injection hr with hr; omega))
      obtain ⟨W8, hW8⟩ : ∃ W8, W8 = w7.setCell ⟨w.heap.size + 1, 0, none⟩ (.slice a7 (j + 1) c7) := ⟨_, rfl⟩
      rw [← hW8] at hD8 k8 HC8 HG8 ⊢
      have HS8 := Lib.hid (show W8.heap.size = w7.heap.size by rw [hW8, World.setCell_size])
      have HD8 := Lib.hid hD8
      have HK8 := Lib.hid k8
      have HR8 := Lib.hid ((k8.block w.heap.size (lt_of_block HR7.out) (by simp)).trans HR7.out)
      clear hD8 k8 hW8 d0 d5 d6 d7 f7 cD fD
      go_wp2_with fail
      go_roundw
      case rel =>
        refine ⟨j + 1, _, zss ++ [zs], _, by simp, hlt, by rw [List.length_append, HL.out]; rfl, fun i ys hy => ?_, H7.out.keptF HK8.out (fun c hc => by have := HF7.out c hc; omega), fun c hc => by rw [HS8.out]; exact HF7.out c hc, HR8.out, HD8.out, HC8.out, HG8.out⟩
        by_cases hi : i < zss.length
        · rw [List.getElem?_append_left hi] at hy
          exact H24.out i ys hy
        · rw [List.getElem?_append_right (by omega)] at hy
          have hi2 := (List.getElem?_eq_some_iff.1 hy).1
          simp at hi2
          rw [show i - zss.length = 0 by omega] at hy
          injection hy with hy
          subst hy
          have := HLz.out
          omega
      case measure => simp [intOf]; omega
    · have e1 : decide ((j : Int) < (N : Int)) = false := by simp; omega
      have cR := blk_cell HR.out 0
      have fR := blk_free HR.out 0
      rw [one0] at cR
      go_wp2_with fail
      obtain ⟨_, r0, k0⟩ := store1 HR.out (.slice a j cap)
      have HC8 := Lib.hid (HC.out.stored (c := w.heap.size) (by have := HLt.out; omega) (by have := HLt.out; omega) (.slice a j cap))
      have HG8 := Lib.hid (grown_own HG.out (grown_set wr w.heap.size 0 (.slice a j cap)) (fun r hr => by injection hr with hr; omega))
      obtain ⟨W6, hW6⟩ : ∃ W6, W6 = wr.setCell ⟨w.heap.size, 0, none⟩ (.slice a j cap) := ⟨_, rfl⟩
      rw [← hW6] at r0 k0 HC8 HG8 ⊢
      have hs6 : W6.heap.size = wr.heap.size := by rw [hW6, World.setCell_size]
      have Q1 := Lib.hid ((HO.out.keptF k0 (fun c hc => by have := HF.out c hc; omega)).mono (G := ival w.heap.size W6.heap.size) (fun c hc => by have := HF.out c hc; unfold ival; omega))
      have hjN := Lib.hid (show zss.length = N by rw [HL.out]; omega)
      clear cR fR cD fD k0 hW6 hs6
      exact bodyPost_ret (v := .agg #[.slice a j cap]) (by simp [results, Try.results78, go_sem, r0]) rfl ⟨_, zss, rfl, Q1.out, hjN.out, H24.out, HC8.out, HG8.out⟩

theorem fl_rows {zss : List (List Int)} {m : Nat} (h : ∀ (i : Nat) (zs : List Int), zss[i]? = some zs → zs.length ≤ m) : fl zss ≤ zss.length * m := by
  induction zss with
  | nil => simp [fl]
  | cons x r ih =>
    have h1 := h 0 x rfl
    have h2 := ih (fun i zs hz => h (i + 1) zs (by simpa using hz))
    rw [fl_cons, List.length_cons, Nat.succ_mul]
    omega

/-- A drawn database. -/
def DbOut (B b : Nat) (w : World) (e : Ending) (w' : World) : Prop :=
  ∃ v zss, e = .returned (.agg #[v]) ∧ Own2 22 5 .u8 (ival w.heap.size w'.heap.size) w' v zss ∧ zss.length ≤ 64 ∧ fl zss ≤ 1600 ∧ Cur B b w' ∧ w.grownBy w' (some b)

set_option maxHeartbeats 4000000 in
set_option maxRecDepth 20000 in
/-- spec.l8Any -/
theorem any8 (B b : Nat) (w : World) (h : Cur B b w) :
    Calls Try.prog 51 #[.pointer (some ⟨b, 0, none⟩)] w (DbOut B b w) := by
  obtain ⟨i1, hi', hy0, hy1, hy2⟩ := info_parts infou8s
  have Hhi' := Lib.hid hi'
  have HLt := Lib.hid h.lt
  have HC := Lib.hid (h.alloc (.cells #[.slice none 0 0] 26))
  have HR0 := Lib.hid (heap_alloc_new w (.cells #[.slice none 0 0] 26))
  have HG := Lib.hid (World.grownBy_alloc w (.cells #[.slice none 0 0] 26) (some b))
  clear h hi'
  go_enter Try.func51, Try.ntmps51
  go_wp2_with fail
  refine (below_any B b 7 _ HC.out (by omega) (by omega)).mono ?_
  rintro e w1 ⟨x, x0, x1, rfl, hc1, hg1⟩
  obtain ⟨m, rfl⟩ : ∃ m : Nat, x = (m : Int) := ⟨x.toNat, by omega⟩
  have hR1 := (hg1.block w.heap.size (by simp) (fun e => by injection e with e; have := HLt.out; omega)).trans HR0.out
  have HR1 := Lib.hid hR1
  replace HC := Lib.hid hc1
  replace HG := Lib.hid (grown_trans HG.out hg1)
  clear hc1 hg1 hR1 HR0
  go_wp2_with fail
  refine (db_any B b m _ HC.out (by omega)).mono ?_
  rintro e w3 ⟨v3, zss, rfl, h3, hl3, hr3, hc3, hg3⟩
  obtain ⟨a3, c3, hv3, _⟩ := h3.open
  rw [hl3] at hv3
  subst hv3
  have HL := Lib.hid hl3
  have H24 := Lib.hid hr3
  have hR3 := (hg3.block w.heap.size (lt_of_block HR1.out) (fun e => by injection e with e; have := HLt.out; omega)).trans HR1.out
  have HSa := Lib.hid (show w.heap.size + 1 ≤ w1.heap.size from lt_of_block HR1.out)
  have HSb := Lib.hid hg3.size
  have HRa := Lib.hid ((heap_alloc_old w3 (.cells #[.slice a3 m c3] 26) (lt_of_block hR3)).trans hR3)
  have HDa := Lib.hid (heap_alloc_new w3 (.cells #[.slice a3 m c3] 26))
  have HOa := Lib.hid (h3.alloc (.cells #[.slice a3 m c3] 26))
  replace HC := Lib.hid (hc3.alloc (.cells #[.slice a3 m c3] 26))
  replace HG := Lib.hid (grown_trans HG.out (grown_trans hg3 (World.grownBy_alloc w3 (.cells #[.slice a3 m c3] 26) (some b))))
  clear h3 hl3 hr3 hc3 hg3 hR3 HR1
  go_wp2_with fail
  refine (below_any B b 10 _ HC.out (by omega) (by omega)).mono ?_
  rintro e wr ⟨x, y0, y1, rfl, hc4, hg4⟩
  obtain ⟨D, hDe⟩ : ∃ D, D = w3.heap.size := ⟨_, rfl⟩
  have hSz : D + 1 ≤ wr.heap.size := by have := hg4.size; rw [World.size_alloc] at this; omega
  have hD4 := (hg4.block w3.heap.size (by simp) (fun e => by injection e with e; have := HLt.out; have := HSa.out; have := HSb.out; omega)).trans HDa.out
  have hR4 := (hg4.block w.heap.size (by have := HSa.out; have := HSb.out; simp; omega) (fun e => by injection e with e; have := HLt.out; omega)).trans HRa.out
  rw [← hDe] at hD4 HSb
  have HD := Lib.hid hD4
  have HR := Lib.hid hR4
  have hO4 := (HOa.out.keptF (KeptF.of_grown (F := fun c => c = b) hg4 (fun c hc => by injection hc with hc; exact hc.symm)) (fun c hc hcb => by have := HLt.out; have := HSa.out; unfold ival at hc; omega)).mono (G := ival (w.heap.size + 1) D) (fun c hc => by have := HSa.out; unfold ival at hc ⊢; omega)
  have HO := Lib.hid hO4
  replace HC := Lib.hid hc4
  replace HG := Lib.hid (grown_trans HG.out hg4)
  have HSd := Lib.hid hSz
  have HSD : Hid (w.heap.size + 1 ≤ D) := Lib.hid (by have := HSa.out; have := HSb.out; omega)
  have cD := blk_cell hD4 0
  rw [one0] at cD
  clear hc4 hg4 hD4 hR4 hO4 hSz HOa HDa HRa
  rw [← hDe]
  clear hDe
  by_cases hx0 : x = 0
  · have e1 : (x == 0) = true := by simp [hx0]
    clear hx0
    obtain ⟨F, hF0⟩ : ∃ F, F = ival (w.heap.size + 1) D := ⟨_, rfl⟩
    rw [← hF0] at HO
    have HF : Hid (∀ c, F c → w.heap.size + 1 ≤ c ∧ c < D) := Lib.hid (fun c hc => by rw [hF0] at hc; exact hc)
    clear hF0
    have d0 : wr.drew.cell? ⟨D, 0, none⟩ = some (.slice a3 m c3) := cD
    have HLb : Hid ((zss.length + 1) * 24 ≤ 140737488355328) := Lib.hid (by have := HL.out; omega)
    have hm6 := x1
    go_wp2_with fail
    refine region_till (fun w' => w'.cell? ⟨D, 0, none⟩ = some (.slice a3 m c3)) 10 (by kernel_rfl) ?_
    apply Till.take (i := 0) [0, 1, 8, 10]
    · simp only [List.getElem?_toArray, List.getElem?_cons_zero]
      rfl
    · kernel_rfl
    · kernel_rfl
    · kernel_rfl
    · kernel_rfl
    · exact fun _ _ _ h => h
    · first
        | exact Or.inr ⟨by rfl, rfl⟩
        | (refine Or.inl ⟨by rfl, fun wq hwq => ?_⟩
           dsimp only at hwq
           go_simp
           first
             | done
             | rfl)
    · exact d0
    simp only [Act.put, List.setIfInBounds_toArray, List.set_cons_zero, List.set_cons_succ]
    apply Till.take (i := 1) [1, 8, 10]
    · simp only [List.getElem?_toArray, List.getElem?_cons_succ, List.getElem?_cons_zero]
      rfl
    · kernel_rfl
    · kernel_rfl
    · kernel_rfl
    · kernel_rfl
    · exact fun _ _ _ h => h
    · first
        | exact Or.inr ⟨by rfl, rfl⟩
        | (refine Or.inl ⟨by rfl, fun wq hwq => ?_⟩
           dsimp only at hwq
           go_simp
           first
             | done
             | rfl)
    · exact d0
    simp only [Act.put, List.setIfInBounds_toArray, List.set_cons_zero, List.set_cons_succ]
    apply Till.take (i := 2) [2, 6, 7, 8, 10]
    · simp only [List.getElem?_toArray, List.getElem?_cons_succ, List.getElem?_cons_zero]
      rfl
    · kernel_rfl
    · kernel_rfl
    · kernel_rfl
    · kernel_rfl
    · exact fun _ _ _ h => h
    · first
        | exact Or.inr ⟨by rfl, rfl⟩
        | (refine Or.inl ⟨by rfl, fun wq hwq => ?_⟩
           dsimp only at hwq
           go_simp
           first
             | done
             | rfl)
    · exact d0
    simp only [Act.put, List.setIfInBounds_toArray, List.set_cons_zero, List.set_cons_succ]
    apply Till.take (i := 3) [3, 4, 5, 6, 7, 8, 10]
    · simp only [List.getElem?_toArray, List.getElem?_cons_succ, List.getElem?_cons_zero]
      rfl
    · kernel_rfl
    · kernel_rfl
    · kernel_rfl
    · kernel_rfl
    · exact fun _ _ _ h => h
    · first
        | exact Or.inr ⟨by rfl, rfl⟩
        | (refine Or.inl ⟨by rfl, fun wq hwq => ?_⟩
           dsimp only at hwq
           go_simp
           first
             | done
             | rfl)
    · exact d0
    simp only [Act.put, List.setIfInBounds_toArray, List.set_cons_zero, List.set_cons_succ]
    apply Till.one (i := 4)
    · kernel_rfl
    · simp only [List.getElem?_toArray, List.getElem?_cons_succ, List.getElem?_cons_zero]
      rfl
    intro K hK
    go_simp
    refine (below_any B b 3 wr.drew HC.out.drew (by omega) (by omega)).mono ?_
    rintro e' wk ⟨xk, k0, k1, he, hck, hgk⟩
    subst he
    obtain ⟨k, rfl⟩ : ∃ k : Nat, xk = (k : Int) := ⟨xk.toNat, by omega⟩
    have hgk' := grown_trans (grown_drew wr (some b)) hgk
    have hkk : KeptF (fun c => c = b) wr wk := KeptF.of_grown hgk' (fun c hc => by injection hc with hc; exact hc.symm)
    replace HO := Lib.hid (HO.out.keptF hkk (fun c hc hcb => by have := HF.out c hc; have := HLt.out; omega))
    have hDk := (hkk.block D (by have := HSd.out; omega) (by have := HLt.out; have := HSD.out; omega)).trans HD.out
    replace HD := Lib.hid hDk
    replace HR := Lib.hid ((hkk.block w.heap.size (lt_of_block HR.out) (by have := HLt.out; omega)).trans HR.out)
    replace HC := Lib.hid hck
    replace HG := Lib.hid (grown_trans HG.out hgk')
    replace HSd := Lib.hid (Nat.le_trans HSd.out hkk.size)
    have dk : wk.cell? ⟨D, 0, none⟩ = some (.slice a3 m c3) := (blk_cell hDk 0).trans (one0 _)
    have hw23 : IntKind.i64.wrap (23 + (k : Int)) = ((23 + k : Nat) : Int) := by rw [IntKind.wrap_i64]; omega
    clear hgk hgk' hkk hDk hck
    refine hK.out _ _ (Or.inr dk) ?_
    clear hK K
    try simp only [Act.put, List.setIfInBounds_toArray, List.set_cons_zero, List.set_cons_succ]
    apply Till.take (i := 5) (v := .int .i64 ((23 + k : Nat) : Int)) [5, 6, 7, 8, 10]
    · simp only [List.getElem?_toArray, List.getElem?_cons_succ, List.getElem?_cons_zero]
      rfl
    · kernel_rfl
    · kernel_rfl
    · kernel_rfl
    · kernel_rfl
    · exact fun _ _ _ h => h
    · refine Or.inl ⟨by rfl, fun wq hwq => ?_⟩
      go_simp
      first
        | done
        | rfl
        | (rw [hw23]; done)
    · exact dk
    simp only [Act.put, List.setIfInBounds_toArray, List.set_cons_zero, List.set_cons_succ]
    apply Till.one (i := 6)
    · kernel_rfl
    · simp only [List.getElem?_toArray, List.getElem?_cons_succ, List.getElem?_cons_zero]
      rfl
    intro K hK
    go_simp
    refine (bytes_any B b (23 + k) wk HC.out (by omega)).mono ?_
    rintro e' w5 ⟨v5, zs, he, hO5, q1, q2, hc5, hg5⟩
    subst he
    obtain ⟨L5, hL5⟩ : ∃ L, L = zs.length := ⟨_, rfl⟩
    obtain ⟨a5, c5, hv5, _⟩ := hO5.open
    rw [← hL5] at hv5
    subst hv5
    have HLz := Lib.hid (show 23 ≤ zs.length ∧ zs.length ≤ 25 from ⟨by omega, by omega⟩)
    have hg5' := hg5
    have HS5 : Hid (wk.heap.size ≤ w5.heap.size) := Lib.hid hg5.size
    have hk5 : KeptF (fun c => c = b) wk w5 := KeptF.of_grown hg5' (fun c hc => by injection hc with hc; exact hc.symm)
    have HO5 := Lib.hid ((HO.out.keptF hk5 (fun c hc hcb => by have := HF.out c hc; have := HLt.out; omega)).alloc (.cells #[.slice a5 L5 c5] 22))
    have hr5 : Own 5 .u8 wk.heap.size w5 (.slice a5 L5 c5) zs := hO5
    have HR5 := Lib.hid (hr5.alloc (.cells #[.slice a5 L5 c5] 22))
    have hD5 := (hk5.block D HSd.out (by have := HLt.out; have := HSD.out; omega)).trans HD.out
    have hR5' := (hk5.block w.heap.size (lt_of_block HR.out) (by have := HLt.out; omega)).trans HR.out
    have HD6 := Lib.hid ((heap_alloc_old w5 (.cells #[.slice a5 L5 c5] 22) (lt_of_block hD5)).trans hD5)
    have HR6 := Lib.hid ((heap_alloc_old w5 (.cells #[.slice a5 L5 c5] 22) (lt_of_block hR5')).trans hR5')
    have HC6 := Lib.hid (hc5.alloc (.cells #[.slice a5 L5 c5] 22))
    have HG6 := Lib.hid (grown_trans HG.out (grown_trans hg5' (World.grownBy_alloc w5 (.cells #[.slice a5 L5 c5] 22) (some b))))
    have d5 : w5.cell? ⟨D, 0, none⟩ = some (.slice a3 m c3) := (blk_cell hD5 0).trans (one0 _)
    have d6 : (w5.alloc (.cells #[.slice a5 L5 c5] 22)).cell? ⟨D, 0, none⟩ = some (.slice a3 m c3) := (blk_cell HD6.out 0).trans (one0 _)
    have HFn : Hid (∀ r, (Value.slice a5 L5 c5).ownBlock = some r → ¬ F r) := Lib.hid (fun r hr hFr => by have h1 := HF.out r hFr; have h2 := HR5.out.lt r hr; have h8 := HSd.out; omega)
    have HFl : Hid (∀ c, F c → c < (w5.alloc (.cells #[.slice a5 L5 c5] 22)).heap.size) := Lib.hid (fun c hc => by have h1 := HF.out c hc; have h2 := HS5.out; have h8 := HSd.out; simp; omega)
    clear hO5 hc5 hg5 hg5' hk5 hr5 hD5 hR5' q1 q2 hL5
    refine hK.out _ _ (Or.inr d5) ?_
    clear hK K
    try simp only [Act.put, List.setIfInBounds_toArray, List.set_cons_zero, List.set_cons_succ]
    apply Till.one (i := 7)
    · kernel_rfl
    · simp only [List.getElem?_toArray, List.getElem?_cons_succ, List.getElem?_cons_zero]
      rfl
    intro K hK
    go_simp
    skip
    refine hK.out _ _ (Or.inr d6) ?_
    clear hK K
    try simp only [Act.put, List.setIfInBounds_toArray, List.set_cons_zero, List.set_cons_succ]
    apply Till.one (i := 8)
    · kernel_rfl
    · simp only [List.getElem?_toArray, List.getElem?_cons_succ, List.getElem?_cons_zero]
      rfl
    intro K hK
    refine step_append_rowF _ (by rfl) _ _ 24 (by rfl) 22 5 i1 24 Try.underlying24 Hhi'.out hy0 hy1 hy2 (by omega) (by rfl) HO5.out HFl.out (by rfl) (cell_one_new _ _ _ 0 _ rfl) (HR5.out.mono (Nat.zero_le _)) HFn.out HLb.out ?_
    intro v7 w7 h7 hg7 hp7 hl7
    have hin := HO5.out.in_
    have hk7 : KeptF F (w5.alloc (.cells #[.slice a5 L5 c5] 22)) w7 := KeptF.of_grown hg7 hin
    have HC7 := Lib.hid (HC6.out.kept hg7 (fun e => by have := HF.out b (hin b e); have := HLt.out; omega) (fun r hr => by have := HF.out r (hin r hr); have := HLt.out; omega))
    have HG7 := Lib.hid (grown_own HG6.out hg7 (fun r hr => by have := HF.out r (hin r hr); omega))
    have HD7 := Lib.hid ((hk7.block D (lt_of_block HD6.out) (fun h => by have := HF.out _ h; omega)).trans HD6.out)
    have HR7 := Lib.hid ((hk7.block w.heap.size (lt_of_block HR6.out) (fun h => by have := HF.out _ h; omega)).trans HR6.out)
    have d7 := blk_cell HD7.out 0
    have f7 := blk_free HD7.out 0
    rw [one0] at d7
    have HS7 := Lib.hid hk7.size
    have H7 := Lib.hid h7
    have HP7 := Lib.hid hp7
    have HL7 := Lib.hid hl7
    have HF7 : Hid (∀ c, (F c ∨ (Value.slice a5 L5 c5).ownBlock = some c ∨ v7.ownBlock = some c) → (w.heap.size + 1 ≤ c ∧ c < w7.heap.size ∧ c ≠ D)) := Lib.hid (fun c hc => by
      have h1 := HS7.out
      have h2 := HS5.out
      have h3 := HSd.out
      have h10 := HSD.out
      have h9 : (w5.alloc (.cells #[.slice a5 L5 c5] 22)).heap.size = w5.heap.size + 1 := by simp
      rcases hc with hc | hc | hc
      · have := HF.out c hc; omega
      · have h4 := HR5.out.lt c hc; omega
      · have h4 := HL7.out c hc
        rcases HP7.out with h5 | h5
        · rw [h5] at hc
          have := HF.out c (HO5.out.in_ c hc)
          omega
        · rw [h5, World.size_alloc] at hc
          injection hc with hc
          omega)
    obtain ⟨a7, c7, hv7, _⟩ := h7.open
    rw [List.length_append, HL.out] at hv7
    simp only [List.length_cons, List.length_nil, Nat.zero_add] at hv7
    subst hv7
    clear h7 hg7 hp7 hl7 hin hk7
    refine hK.out _ _ (Or.inr d7) ?_
    clear hK K
    try simp only [Act.put, List.setIfInBounds_toArray, List.set_cons_zero, List.set_cons_succ]
    apply Till.take (i := 9) [9, 10]
    · simp only [List.getElem?_toArray, List.getElem?_cons_succ, List.getElem?_cons_zero]
      rfl
    · kernel_rfl
    · kernel_rfl
    · kernel_rfl
    · kernel_rfl
    · exact fun _ _ _ h => h
    · first
        | exact Or.inr ⟨by rfl, rfl⟩
        | (refine Or.inl ⟨by rfl, fun wq hwq => ?_⟩
           dsimp only at hwq
           go_simp
           first
             | done
             | rfl)
    · exact d7
    simp only [Act.put, List.setIfInBounds_toArray, List.set_cons_zero, List.set_cons_succ]
    apply Till.one (i := 10)
    · kernel_rfl
    · simp only [List.getElem?_toArray, List.getElem?_cons_succ, List.getElem?_cons_zero]
      rfl
    intro K hK
    go_simp
    skip
    refine hK.out _ _ (Or.inl (by rfl)) ?_
    clear hK K
    try simp only [Act.put, List.setIfInBounds_toArray, List.set_cons_zero, List.set_cons_succ]
    refine Till.done (by kernel_rfl) ?_ _
    obtain ⟨hD8, _, k8⟩ := store1 HD7.out (.slice a7 (m + 1) c7)
    have HC8 := Lib.hid (HC7.out.stored (c := D) (by have := HLt.out; have := HSD.out; omega) (by have := HLt.out; have := HSD.out; omega) (.slice a7 (m + 1) c7))
    have HG8 := Lib.hid (grown_own HG7.out (grown_set w7 D 0 (.slice a7 (m + 1) c7)) (fun r hr => by injection hr with hr; have := HSD.out; omega))
    obtain ⟨W8, hW8⟩ : ∃ W8, W8 = w7.setCell ⟨D, 0, none⟩ (.slice a7 (m + 1) c7) := ⟨_, rfl⟩
    rw [← hW8] at hD8 k8 HC8 HG8 ⊢
    have HS8 := Lib.hid (show W8.heap.size = w7.heap.size by rw [hW8, World.setCell_size])
    have HD8 := Lib.hid hD8
    have HK8 := Lib.hid k8
    have HR8 := Lib.hid ((k8.block w.heap.size (lt_of_block HR7.out) (by have := HSD.out; omega)).trans HR7.out)
    clear hD8 k8 hW8 d0 d5 d6 d7 f7 cD dk
    have cR := blk_cell HR8.out 0
    have fR := blk_free HR8.out 0
    rw [one0] at cR
    have cD := blk_cell HD8.out 0
    rw [one0] at cD
    go_wp2_with fail
    obtain ⟨_, r0, k0⟩ := store1 HR8.out (.slice a7 (m + 1) c7)
    have HC9 := Lib.hid (HC8.out.stored (c := w.heap.size) (by have := HLt.out; omega) (by have := HLt.out; omega) (.slice a7 (m + 1) c7))
    have HG9 := Lib.hid (grown_own HG8.out (grown_set W8 w.heap.size 0 (.slice a7 (m + 1) c7)) (fun r hr => by injection hr with hr; omega))
    obtain ⟨W9, hW9⟩ : ∃ W9, W9 = W8.setCell ⟨w.heap.size, 0, none⟩ (.slice a7 (m + 1) c7) := ⟨_, rfl⟩
    rw [← hW9] at r0 k0 HC9 HG9 ⊢
    have hs9 : W9.heap.size = W8.heap.size := by rw [hW9, World.setCell_size]
    have Q1 := Lib.hid (((H7.out.keptF HK8.out (fun c hc => (HF7.out c hc).2.2)).keptF k0 (fun c hc => by have := HF7.out c hc; omega)).mono (G := ival w.heap.size W9.heap.size) (fun c hc => by have := HF7.out c hc; have := HS8.out; unfold ival; omega))
    have HT : Hid ((zss ++ [zs]).length ≤ 64 ∧ fl (zss ++ [zs]) ≤ 1600) := Lib.hid (by
      have h1 := HL.out
      have h2 := HLz.out
      have h3 := fl_rows (m := 24) (fun i ys hy => by rw [H24.out i ys hy]; exact Nat.le_refl _)
      rw [List.length_append, fl_append, fl_cons, fl_nil, List.length_cons, List.length_nil]
      omega)
    clear cR fR cD k0 hW9 hs9
    exact bodyPost_ret (v := .agg #[.slice a7 (m + 1) c7]) (by simp [results, Try.results51, go_sem, r0]) rfl ⟨_, zss ++ [zs], rfl, Q1.out, HT.out.1, HT.out.2, HC9.out, HG9.out⟩
  · have e1 : (x == 0) = false := by rw [beq_eq_false_iff_ne]; exact hx0
    have HT0 : Hid (zss.length ≤ 64 ∧ fl zss ≤ 1600) := Lib.hid (by
      have h1 := HL.out
      have h3 := fl_rows (m := 24) (fun i ys hy => by rw [H24.out i ys hy]; exact Nat.le_refl _)
      omega)
    by_cases hx1 : x = 1
    · have e2 : (x == 1) = true := by simp [hx1]
      clear hx0 hx1
      go_wp2_with fail
      refine (spec_new (n := 64) (by decide)).mono ?_
      rintro e w7 ⟨v7, rfl, h7, hb7⟩
      obtain ⟨a7, c7, hv7, _⟩ := h7.open
      obtain ⟨L7, hL7⟩ : ∃ L, L = (newR 64).length := ⟨_, rfl⟩
      rw [← hL7] at hv7
      clear hL7
      subst hv7
      have hR7 := (hb7.block w.heap.size (lt_of_block HR.out)).trans HR.out
      have HR7 := Lib.hid hR7
      have HC7 := Lib.hid (HC.out.kept (grown_of_below hb7) (by simp) (fun r hr => by cases hr))
      have HG7 := Lib.hid (grown_trans HG.out (grown_none (r := some b) (grown_of_below hb7)))
      have H7 := Lib.hid h7
      have HS7 := Lib.hid hb7.size
      clear h7 hb7 hR7 cD
      have cR := blk_cell HR7.out 0
      have fR := blk_free HR7.out 0
      rw [one0] at cR
      go_wp2_with fail
      obtain ⟨_, r0, k0⟩ := store1 HR7.out (.slice a7 L7 c7)
      have HC9 := Lib.hid (HC7.out.stored (c := w.heap.size) (by have := HLt.out; omega) (by have := HLt.out; omega) (.slice a7 L7 c7))
      have HG9 := Lib.hid (grown_own HG7.out (grown_set w7 w.heap.size 0 (.slice a7 L7 c7)) (fun r hr => by injection hr with hr; omega))
      obtain ⟨W9, hW9⟩ : ∃ W9, W9 = w7.setCell ⟨w.heap.size, 0, none⟩ (.slice a7 L7 c7) := ⟨_, rfl⟩
      rw [← hW9] at r0 k0 HC9 HG9 ⊢
      have hs9 : W9.heap.size = w7.heap.size := by rw [hW9, World.setCell_size]
      have Q1 := Lib.hid ((H7.out.keptF k0 (fun c hc => by have := HSd.out; have := HSD.out; unfold ival at hc; omega)).mono (G := ival w.heap.size W9.heap.size) (fun c hc => by have := HSd.out; have := HSD.out; unfold ival at hc ⊢; omega))
      have HT : Hid ((newR 64).length ≤ 64 ∧ fl (newR 64) ≤ 1600) := Lib.hid (by
        have h1 := newR_fl 64
        have h2 : newR ((64 : Nat) : Int) = List.replicate 64 (List.replicate 24 0) := newR_yes (Nat.le_refl _)
        refine ⟨?_, by omega⟩
        rw [show (64 : Int) = ((64 : Nat) : Int) from rfl, h2, List.length_replicate]
        exact Nat.le_refl _)
      clear cR fR k0 hW9 hs9
      exact bodyPost_ret (v := .agg #[.slice a7 L7 c7]) (by simp [results, Try.results51, go_sem, r0]) rfl ⟨_, newR 64, rfl, Q1.out, HT.out.1, HT.out.2, HC9.out, HG9.out⟩
    · have e2 : (x == 1) = false := by rw [beq_eq_false_iff_ne]; exact hx1
      clear hx0 hx1 cD
      have cR := blk_cell HR.out 0
      have fR := blk_free HR.out 0
      rw [one0] at cR
      have cD := blk_cell HD.out 0
      rw [one0] at cD
      go_wp2_with fail
      obtain ⟨_, r0, k0⟩ := store1 HR.out (.slice a3 m c3)
      have HC9 := Lib.hid (HC.out.stored (c := w.heap.size) (by have := HLt.out; omega) (by have := HLt.out; omega) (.slice a3 m c3))
      have HG9 := Lib.hid (grown_own HG.out (grown_set wr w.heap.size 0 (.slice a3 m c3)) (fun r hr => by injection hr with hr; omega))
      obtain ⟨W9, hW9⟩ : ∃ W9, W9 = wr.setCell ⟨w.heap.size, 0, none⟩ (.slice a3 m c3) := ⟨_, rfl⟩
      rw [← hW9] at r0 k0 HC9 HG9 ⊢
      have hs9 : W9.heap.size = wr.heap.size := by rw [hW9, World.setCell_size]
      have Q1 := Lib.hid ((HO.out.keptF k0 (fun c hc => by unfold ival at hc; omega)).mono (G := ival w.heap.size W9.heap.size) (fun c hc => by have := HSd.out; unfold ival at hc ⊢; omega))
      clear cR fR cD k0 hW9 hs9
      exact bodyPost_ret (v := .agg #[.slice a3 m c3]) (by simp [results, Try.results51, go_sem, r0]) rfl ⟨_, zss, rfl, Q1.out, HT0.out.1, HT0.out.2, HC9.out, HG9.out⟩

end Go.Proofs.Ytigeghmkkppldaa
