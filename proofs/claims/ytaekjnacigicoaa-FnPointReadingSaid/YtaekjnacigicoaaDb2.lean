/- NewDatabase, the program's: what it gives. No conditions. -/
import Derived.Test.YtaekjnacigicoaaBbD
import Derived.Test.YtaekjnacigicoaaSwap
import Derived.Test.YtaekjnacigicoaaHeldL
import Derived.Deep.RegionHeld3
namespace Go.Proofs.Ytaekjnacigicoaa
open Go Go.RowKit
set_option linter.unusedVariables false
attribute [local irreducible] kh

/-- make, at a step of a region that draws its order. -/
theorem step_make {P : Program} (w : World) {ops : Array Oper} {o : Oper} {a : Act} {K : Act → World → Prop} {Q : Exit → Act → World → Prop} {E' : Prop} (hgd : o.guard = none) (l c : Operand) (t : TypeId) (hop : o.op = Op.makeSlice t l c)
    (base : Nat) (e : TypeId) (i : TypeInfo) (z : Value) (size : Nat) (h1 : P.underlying t = some (.slice e)) (h2 : P.info? e = some i) (h3 : i.zero = some z) (h4 : i.size = size)
    (kl kc : IntKind) (L C : Int) (n : Nat) (hl : a.eval l = .int kl L) (hc : a.eval c = .int kc C) (hL : L = (n : Int)) (hC : C = (n : Int)) (b2 : i.bytes * n ≤ 281474976710656) (b3 : n ≤ maxLen) (b4 : base ≤ w.heap.size)
    (hK : ∀ w', w'.ownsRow base e size (.slice (some ⟨w.heap.size, 0, none⟩) n n) n (madeCells z.cells (n * size)).toList → w.grownBy w' none → K (a.put o.dst (.slice (some ⟨w.heap.size, 0, none⟩) n n)) w') :
    if Region.wanted o (yielded ops a.tmps) = true then Oper.wp P o a w K Q else E' := by
  have hw : Region.wanted o (yielded ops a.tmps) = true := by simp [Region.wanted, hgd]
  rw [if_pos hw]
  obtain ⟨w', hrun, r1, r2⟩ := run_make_full (P := P) w base t e i z size h1 h2 h3 h4 kl kc n b2 b3 b4
  subst hL
  subst hC
  unfold Oper.wp
  simp [execOp, hop, hl, hc, hrun, Result.andThen]
  exact hK w' r1 r2

theorem fill_rep {n j : Nat} (hj : j < n) (r : List Int) : (List.replicate j r ++ List.replicate (n - j) []).set j r = List.replicate (j + 1) r ++ List.replicate (n - (j + 1)) [] := by
  rw [List.set_append_right _ _ (by simp), List.length_replicate, Nat.sub_self, show n - j = (n - (j + 1)) + 1 by omega, List.replicate_succ, List.set_cons_zero, List.replicate_succ', List.append_assoc]
  rfl

set_option maxHeartbeats 2000000 in
set_option maxRecDepth 20000 in
/-- impl.NewDatabase -/
theorem impl_new {w : World} {n : Int} (hn : (Lit.int .i64 n).wf = true) :
    Calls Try.prog 5 #[.int .i64 n] w fun e w' => ∃ v', e = .returned (.agg #[v']) ∧ Own2 22 5 .u8 (ival w.heap.size w'.heap.size) w' v' (newR n) ∧ Below w.heap.size w w' := by
  obtain ⟨i0, hi, hz0, hz1, hz2⟩ := info_parts infou8
  obtain ⟨i1, hi', hy0, hy1, hy2⟩ := info_parts infou8s
  have Hhi := Lib.hid hi
  have Hhi' := Lib.hid hi'
  have HW := Lib.hid hn
  have HB := Lib.hid ((Below.refl w.heap.size w).alloc (Nat.le_refl _) (.cells #[.slice none 0 0] 26))
  clear hn hi hi'
  by_cases hin : 0 ≤ n ∧ n ≤ 64
  · obtain ⟨N, rfl⟩ : ∃ N : Nat, n = (N : Int) := ⟨n.toNat, by omega⟩
    have hN : N ≤ 64 := by omega
    have HI : Hid (inR (N : Int) 0 64 = true) := Lib.hid (inR_yes (by omega))
    have HE : Hid (newR (N : Int) = List.replicate N (List.replicate 24 0)) := Lib.hid (newR_yes hN)
    clear hin
    go_enter Try.func5, Try.ntmps5
    go_wp2_with fail
    refine (impl_in _ _ _ _ HW.out).mono ?_
    rw [HI.out]
    rintro e w0 ⟨rfl, hw0⟩
    subst hw0
    go_wp2_with (first | (at_make; refine wpList_make_full _ rfl _ _ 24 rfl (w.heap.size + 1) 22 i1 (.slice none 0 0) 1 Try.underlying24 Hhi'.out hy0 hy1 .i64 .i64 _ _ N rfl rfl rfl rfl (by rw [hy2]; omega) (by unfold maxLen; omega) (by simp) ?_))
    intro w1 hown hg
    have hg' := hg.size
    rw [World.size_alloc] at hg'
    have HO : Hid (Own2 22 5 .u8 (ival (w.heap.size + 1) w1.heap.size) w1 (.slice (some ⟨w.heap.size + 1, 0, none⟩) N N) (List.replicate N [])) := Lib.hid (made_start hown (Nat.le_refl _))
    have hb1 := (hg.block w.heap.size (by simp) (by simp)).trans (heap_alloc_new w (.cells #[.slice none 0 0] 26))
    have HB1 := Lib.hid ((HB.out).grown hg HB.out.size (fun k hk => by cases hk))
    have HR1 := Lib.hid hb1
    have HSz := Lib.hid hg'
    clear hown hg hg' hb1
    have HO1 := Lib.hid (HO.out.alloc (.cells #[.slice (some ⟨w.heap.size + 1, 0, none⟩) N N] 26))
    have HB2 := Lib.hid (HB1.out.alloc HB1.out.size (.cells #[.slice (some ⟨w.heap.size + 1, 0, none⟩) N N] 26))
    have HR2 := Lib.hid ((heap_alloc_old w1 (.cells #[.slice (some ⟨w.heap.size + 1, 0, none⟩) N N] 26) (by have := HSz.out; omega)).trans HR1.out)
    have HD2 := Lib.hid (heap_alloc_new w1 (.cells #[.slice (some ⟨w.heap.size + 1, 0, none⟩) N N] 26))
    clear HO HB1 HR1
    go_wp2_with fail
    go_loopw [15] (fun i wr => ∃ (j : Nat) (F : Nat → Prop), i = .int .i64 j ∧ j ≤ N ∧ Own2 22 5 .u8 F wr (.slice (some ⟨w.heap.size + 1, 0, none⟩) N N) (List.replicate j (List.replicate 24 0) ++ List.replicate (N - j) []) ∧
      (∀ b, F b → w.heap.size + 1 ≤ b ∧ b < wr.heap.size ∧ b ≠ w1.heap.size) ∧ wr.heap[w.heap.size]? = some (.cells #[.slice none 0 0] 26) ∧ wr.heap[w1.heap.size]? = some (.cells #[.slice (some ⟨w.heap.size + 1, 0, none⟩) N N] 26) ∧ Below w.heap.size w wr) (fun i _ => N - (intOf i).toNat)
    case atStart => exact ⟨0, _, rfl, Nat.zero_le _, HO1.out, fun b hb => by unfold ival at hb; rw [World.size_alloc]; omega, HR2.out, HD2.out, HB2.out⟩
    case round =>
      obtain ⟨j, F, rfl, hj, hO, hF, hR, hD, hB⟩ := hrel
      have HO := Lib.hid hO
      have HF := Lib.hid hF
      have HR := Lib.hid hR
      have HD := Lib.hid hD
      replace HB := Lib.hid hB
      have cD := blk_cell hD 0
      rw [one0] at cD
      have HSd := Lib.hid (lt_of_block hD)
      clear hO hF hR hD hB HO1 HB2 HR2 HD2
      by_cases hlt : j < N
      · have e1 : decide ((j : Int) < (N : Int)) = true := by simp; omega
        have hjN : (j : Int) < (N : Int) := by omega
        have d0 : wr.drew.cell? ⟨w1.heap.size, 0, none⟩ = some (.slice (some ⟨w.heap.size + 1, 0, none⟩) N N) := cD
        have hlen2 : j < (List.replicate j (List.replicate 24 (0 : Int)) ++ List.replicate (N - j) []).length := by simp; omega
        have HL2 := Lib.hid hlen2
        clear hlen2
        obtain ⟨w5, hrun, ho5, hg5⟩ := run_make_full (P := Try.prog) wr.drew wr.drew.heap.size 22 5 i0 (.int .u8 0) 1 Try.underlying22 Hhi.out hz0 hz1 .i64 .i64 24 (by rw [hz2]; omega) (by unfold maxLen; omega) (Nat.le_refl _)
        have hm5 : (Instr.makeSlice 22 (.int .i64 24) (.int .i64 24)).run Try.prog wr.drew = .ok (.slice (some ⟨wr.heap.size, 0, none⟩) 24 24) w5 := hrun
        have hr5 := own_made ho5 hg5.size (by decide)
        have hb5 := (Below.refl wr.drew.heap.size wr.drew).grown hg5 (Nat.le_refl _) (fun k hk => by cases hk)
        have HR5 : Hid (Own 5 .u8 wr.heap.size w5 (.slice (some ⟨wr.heap.size, 0, none⟩) 24 24) (List.replicate 24 0)) := Lib.hid hr5
        have HO5 := Lib.hid (HO.out.drew.next hb5)
        have HB5 := Lib.hid hb5
        obtain ⟨u2, c2⟩ := HO5.out.cellAt HL2.out
        have f2 := HO5.out.free (by simp; omega) j
        have d5 : w5.cell? ⟨w1.heap.size, 0, none⟩ = some (.slice (some ⟨w.heap.size + 1, 0, none⟩) N N) := (hb5.cell (p := ⟨w1.heap.size, 0, none⟩) HSd.out).trans d0
        obtain ⟨p1, p2⟩ := HO5.out.put (j := j) (HR5.out.mono (Nat.zero_le _)) (fun r hr hFr => by have := HF.out r hFr; have := HR5.out.lt r hr; omega)
        have d6 : (w5.setCell ⟨w.heap.size + 1, j, none⟩ (.slice (some ⟨wr.heap.size, 0, none⟩) 24 24)).cell? ⟨w1.heap.size, 0, none⟩ = some (.slice (some ⟨w.heap.size + 1, 0, none⟩) N N) := by
          have hne := (HF.out _ (HO.out.in_ _ rfl)).2.2
          have hk := p2.block w1.heap.size (Nat.lt_of_lt_of_le HSd.out HB5.out.size) (fun e => hne (by injection e with e; exact e.symm))
          rw [blk_cell (hk.trans ((HB5.out.block w1.heap.size HSd.out).trans HD.out)) 0]; rfl
        have P1 := Lib.hid p1
        have P2 := Lib.hid p2
        clear ho5 hg5 hr5 hb5 hrun p1 p2
        go_wp2_with fail
        go_region_held3 (fun w' => w'.cell? ⟨w1.heap.size, 0, none⟩ = some (.slice (some ⟨w.heap.size + 1, 0, none⟩) N N)) (first | assumption | go_keep) ((fail))
        obtain ⟨W6, hW6⟩ : ∃ W6, W6 = w5.setCell ⟨w.heap.size + 1, j, none⟩ (.slice (some ⟨wr.heap.size, 0, none⟩) 24 24) := ⟨_, rfl⟩
        rw [← hW6] at P1 P2 ⊢
        have HW6 := Lib.hid (show W6.heap.size = w5.heap.size by rw [hW6, World.setCell_size])
        clear c2 f2 d5 d6 hW6 hm5 d0 cD
        go_wp2_with fail
        go_roundw
        case rel =>
          have hne := (HF.out _ (HO.out.in_ _ rfl)).2.2
          have hs5 := HB5.out.size
          have hs6 := HW6.out
          have hsd := HSd.out
          have hsz := HSz.out
          have hs0 : wr.drew.heap.size = wr.heap.size := rfl
          rw [hs0] at hs5
          refine ⟨j + 1, _, by simp, hlt, by have := P1.out; rwa [fill_rep hlt] at this, fun b hb => ?_, ?_, ?_, ?_⟩
          · rw [hs6]
            rcases hb with hb | hb
            · have := HF.out b hb; omega
            · have h1 := HR5.out.lt b hb
              have := HB.out.size
              omega
          · exact (P2.out.block w.heap.size (by omega) (by simp)).trans ((HB5.out.block w.heap.size (by rw [hs0]; omega)).trans HR.out)
          · exact (P2.out.block w1.heap.size (by omega) (fun e => hne (by injection e with e; exact e.symm))).trans ((HB5.out.block w1.heap.size HSd.out).trans HD.out)
          · exact (HB.out.drew.trans (HB5.out.mono (by rw [hs0]; exact HB.out.size))).grown P2.out (by omega) (fun k hk => by injection hk with hk; omega)
        case measure => simp [intOf]; omega
      · have e1 : decide ((j : Int) < (N : Int)) = false := by simp; omega
        have cR := blk_cell HR.out 0
        have fR := blk_free HR.out 0
        rw [one0] at cR
        have HE2 : Hid (List.replicate j (List.replicate 24 (0 : Int)) ++ List.replicate (N - j) [] = newR (N : Int)) := Lib.hid (by rw [HE.out, show j = N by omega, Nat.sub_self]; simp)
        go_wp2_with fail
        obtain ⟨_, r0, k0⟩ := store1 HR.out (.slice (some ⟨w.heap.size + 1, 0, none⟩) N N)
        obtain ⟨W6, hW6⟩ : ∃ W6, W6 = wr.setCell ⟨w.heap.size, 0, none⟩ (.slice (some ⟨w.heap.size + 1, 0, none⟩) N N) := ⟨_, rfl⟩
        rw [← hW6] at r0 k0 ⊢
        have hs6 : W6.heap.size = wr.heap.size := by rw [hW6, World.setCell_size]
        have Q1 := Lib.hid ((HO.out.keptF k0 (fun b hb => by have := HF.out b hb; omega)).mono (G := ival w.heap.size W6.heap.size) (fun b hb => by have := HF.out b hb; unfold ival; omega))
        rw [HE2.out] at Q1
        have Q2 := Lib.hid (HB.out.trans (k0.below (B := w.heap.size) (fun b hb => by omega) HB.out.size))
        clear cR fR cD k0 hW6 hs6
        exact bodyPost_ret (v := .agg #[.slice (some ⟨w.heap.size + 1, 0, none⟩) N N]) (by simp [results, Try.results5, go_sem, r0]) rfl ⟨_, rfl, Q1.out, Q2.out⟩
  · have HI : Hid (inR n 0 64 = false) := Lib.hid (inR_no hin)
    have HE : Hid (newR n = []) := Lib.hid (newR_no hin)
    clear hin
    go_enter Try.func5, Try.ntmps5
    go_wp2_with fail
    refine (impl_in _ _ _ _ HW.out).mono ?_
    rw [HI.out]
    rintro e w0 ⟨rfl, hw0⟩
    subst hw0
    go_wp2_with fail
    have r0 := blk_cell (heap_alloc_new w (.cells #[.slice none 0 0] 26)) 0
    rw [one0] at r0
    exact bodyPost_ret (v := .agg #[.slice none 0 0]) (by simp [results, Try.results5, go_sem, r0]) rfl ⟨_, rfl, by rw [HE.out]; exact Own2.nil _ _ _ _ _, HB.out⟩

end Go.Proofs.Ytaekjnacigicoaa
