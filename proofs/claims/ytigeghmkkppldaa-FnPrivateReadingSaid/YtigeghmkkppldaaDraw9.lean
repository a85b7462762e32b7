/- Chapter 9's draw. No conditions but a length that a machine holds. -/
import Derived.Test.YtigeghmkkppldaaDraw7
import Derived.Test.YtigeghmkkppldaaDraw8
namespace Go.Proofs.Ytigeghmkkppldaa
open Go Go.RowKit
set_option linter.unusedVariables false
attribute [local irreducible] kh

set_option maxHeartbeats 2000000 in
set_option maxRecDepth 20000 in
/-- spec.DrawReadPrivately -/
theorem draw_rp (B : Nat) (a : Option Addr) (len cap : Nat) (zs : List Int) (w : World) (hB : B ≤ w.heap.size) (hrow : RowB B .u8 w a len cap zs) (hl : len ≤ maxLen) :
    Calls Try.prog 12 #[.slice a len cap] w fun e w' => ∃ v zss x u c, e = .returned (.tuple #[.agg #[v], .int .i64 x, u]) ∧ Own2 22 5 .u8 (ival w.heap.size w'.heap.size) w' v zss ∧ zss.length ≤ 64 ∧ fl zss ≤ 1600 ∧ -1 ≤ x ∧ x ≤ 6 ∧ Own 3 .i64 w.heap.size w' u c ∧ c.length ≤ 4 ∧ Below w.heap.size w w' := by
  have HRw := Lib.hid (hrow.behind (((Below.refl w.heap.size w).alloc (Nat.le_refl _) (.cells #[.slice none 0 0] 26)).mono hB))
  have HR0 := Lib.hid (heap_alloc_new w (.cells #[.slice none 0 0] 26))
  clear hrow
  go_enter Try.func12, Try.ntmps12
  go_wp2_with fail
  refine (new_any B a len cap zs _ (by simp; omega) HRw.out hl).mono ?_
  rintro e w1 ⟨rfl, hc, hg⟩
  rw [World.size_alloc] at hc
  have HC := Lib.hid hc
  have HG := Lib.hid (grown_trans (World.grownBy_alloc w (.cells #[.slice none 0 0] 26) none) hg)
  have HR1 := Lib.hid ((hg.block w.heap.size (by simp) (by simp)).trans HR0.out)
  clear hc hg HR0
  go_wp2_with fail
  refine (any8 B (w.heap.size + 1) _ HC.out).mono ?_
  rintro e w3 ⟨v3, zss, rfl, h3, hl3, hf3, hc3, hg3⟩
  obtain ⟨a3, c3, hv3, _⟩ := h3.open
  obtain ⟨L3, hL3⟩ : ∃ L, L = zss.length := ⟨_, rfl⟩
  rw [← hL3] at hv3
  subst hv3
  have HLa := Lib.hid (show zss.length ≤ 64 ∧ fl zss ≤ 1600 from ⟨hl3, hf3⟩)
  have HLc := Lib.hid HC.out.lt
  have hR3 := (hg3.block w.heap.size (lt_of_block HR1.out) (by simp)).trans HR1.out
  have HRa := Lib.hid ((heap_alloc_old w3 (.cells #[.slice a3 L3 c3] 26) (lt_of_block hR3)).trans hR3)
  have HDa := Lib.hid (heap_alloc_new w3 (.cells #[.slice a3 L3 c3] 26))
  have HOa := Lib.hid (h3.alloc (.cells #[.slice a3 L3 c3] 26))
  have HSb := Lib.hid hg3.size
  replace HC := Lib.hid (hc3.alloc (.cells #[.slice a3 L3 c3] 26))
  replace HG := Lib.hid (grown_trans (grown_none (r := some (w.heap.size + 1)) HG.out) (grown_trans hg3 (World.grownBy_alloc w3 (.cells #[.slice a3 L3 c3] 26) (some (w.heap.size + 1)))))
  clear h3 hl3 hf3 hc3 hg3 hR3 hL3 HR1
  go_wp2_with fail
  refine (below_any B (w.heap.size + 1) 8 _ HC.out (by omega) (by omega)).mono ?_
  rintro e wr ⟨x, x0, x1, rfl, hc4, hg4⟩
  have hk4 : KeptF (fun c => c = w.heap.size + 1) _ wr := KeptF.of_grown hg4 (fun c hc => by injection hc with hc; exact hc.symm)
  have hD4 := (hk4.block w3.heap.size (by simp) (by have := HLc.out; have := HSb.out; omega)).trans HDa.out
  have hR4 := (hk4.block w.heap.size (lt_of_block HRa.out) (by omega)).trans HRa.out
  have HO := Lib.hid (HOa.out.keptF hk4 (fun c hc hcb => by have := HLc.out; unfold ival at hc; omega))
  have HD := Lib.hid hD4
  have HR := Lib.hid hR4
  replace HC := Lib.hid hc4
  replace HG := Lib.hid (grown_trans HG.out hg4)
  have HSd := Lib.hid (lt_of_block hD4)
  have HSw := Lib.hid (show w.heap.size + 2 ≤ w1.heap.size by have := HLc.out; omega)
  have d0 : wr.drew.cell? ⟨w3.heap.size, 0, none⟩ = some (.slice a3 L3 c3) := (blk_cell hD4 0).trans (one0 _)
  clear hc4 hg4 hk4 hD4 hR4 HOa HDa HRa
  have hx1 : x - 1 ≤ 6 := by omega
  have hx0 : -1 ≤ x - 1 := by omega
  obtain ⟨i, hi⟩ : ∃ i, i = x - 1 := ⟨_, rfl⟩
  have hwr : wrap64 (x - 1) = i := by rw [hi]; unfold wrap64; omega
  have hiw : IntKind.i64.wrap (x - 1) = i := by rw [hi, IntKind.wrap_i64]; omega
  have hi' : x - 1 = i := hi.symm
  rw [← hi] at hx1 hx0
  clear hi
  go_wp2_with fail
  go_region_held3 (fun w' => w'.cell? ⟨w3.heap.size, 0, none⟩ = some (.slice a3 L3 c3)) (first | assumption | go_keep) ((first
    | (go_at_call 53
       go_loud (refine (seeds7_any B (w.heap.size + 1) _ HC.out.drew).mono ?_
                rintro e' w5 ⟨v5, ys, he, hO5, q2, hc5, hg5⟩
                subst he
                have hg5' := grown_trans (grown_drew wr (some (w.heap.size + 1))) hg5
                have hk5 : KeptF (fun c => c = w.heap.size + 1) wr w5 := KeptF.of_grown hg5' (fun c hc => by injection hc with hc; exact hc.symm)
                have HO5 := Lib.hid (HO.out.keptF hk5 (fun c hc hcb => by have := HSw.out; unfold ival at hc; omega))
                have hD5 := (hk5.block w3.heap.size HSd.out (by have := HSw.out; have := HSb.out; omega)).trans HD.out
                have hR5 := (hk5.block w.heap.size (lt_of_block HR.out) (by omega)).trans HR.out
                have HR5 := Lib.hid hR5
                have HG5 := Lib.hid (grown_trans HG.out hg5')
                have HB5 : Hid (Own 3 .i64 wr.heap.size w5 v5 ys) := Lib.hid hO5
                have HSz5 : Hid (wr.heap.size ≤ w5.heap.size) := Lib.hid hg5.size
                have d5 : w5.cell? ⟨w3.heap.size, 0, none⟩ = some (.slice a3 L3 c3) := (blk_cell hD5 0).trans (one0 _)
                have c5 := blk_cell hR5 0
                have f5 := blk_free hR5 0
                rw [one0] at c5
                obtain ⟨_, r0, k0⟩ := store1 hR5 (.slice a3 L3 c3)
                have d6 : (w5.setCell ⟨w.heap.size, 0, none⟩ (.slice a3 L3 c3)).cell? ⟨w3.heap.size, 0, none⟩ = some (.slice a3 L3 c3) := (blk_cell ((k0.block w3.heap.size (lt_of_block hD5) (by have := HSw.out; have := HSb.out; omega)).trans hD5) 0).trans (one0 _)
                have R0 := Lib.hid r0
                have K0 := Lib.hid k0
                clear hO5 hc5 hg5 hg5' hk5 hD5 hR5 r0 k0))))
  obtain ⟨W9, hW9⟩ : ∃ W9, W9 = w5.setCell ⟨w.heap.size, 0, none⟩ (.slice a3 L3 c3) := ⟨_, rfl⟩
  rw [← hW9] at R0 K0 ⊢
  have hs9 : W9.heap.size = w5.heap.size := by rw [hW9, World.setCell_size]
  have r0 := R0.out
  have Q1 := Lib.hid ((HO5.out.keptF K0.out (fun c hc => by have := HSw.out; unfold ival at hc; omega)).mono (G := ival w.heap.size W9.heap.size) (fun c hc => by have := HSw.out; have := HSz5.out; have := HSd.out; unfold ival at hc ⊢; omega))
  have hw1 : w.heap.size ≤ wr.heap.size := by have := HSw.out; have := HSb.out; have := HSd.out; omega
  have Q2 := Lib.hid ((HB5.out.keptF K0.out (fun r hr => by have := (HB5.out.lt r hr).1; have := HSw.out; have := HSb.out; have := HSd.out; omega)).mono hw1)
  have Q3 := Lib.hid ((below_of_grown (B := w.heap.size) HG5.out (Nat.le_succ _) (Nat.le_refl _)).trans (K0.out.below (B := w.heap.size) (fun c hc => by omega) (Nat.le_trans hw1 HSz5.out)))
  have HLy := Lib.hid q2
  clear d0 d5 d6 c5 f5 hW9 hs9 hwr hiw hi' q2 hw1
  go_wp2_with fail
  exact bodyPost_ret (v := .tuple #[.agg #[.slice a3 L3 c3], .int .i64 i, v5]) (by simp [results, Try.results12, go_sem, r0]) rfl ⟨_, zss, i, v5, ys, rfl, Q1.out, HLa.out.1, HLa.out.2, hx0, hx1, Q2.out, HLy.out, Q3.out⟩

end Go.Proofs.Ytigeghmkkppldaa
