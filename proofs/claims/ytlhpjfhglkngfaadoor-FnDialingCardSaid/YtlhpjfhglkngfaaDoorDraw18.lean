/- Chapter 18's draws: a person, two persons. No conditions but sizes that a machine holds. -/
import Derived.Test.YtlhpjfhglkngfaaDoorDrawB
import Derived.Test.YtlhpjfhglkngfaaDoorBaD
import Derived.Test.YtlhpjfhglkngfaaDoorDl1
import Derived.Test.YtlhpjfhglkngfaaDoorMb2
import Derived.Test.YtlhpjfhglkngfaaDoorHeldL
namespace Go.Proofs.YtlhpjfhglkngfaaDoor
open Go Go.RowKit
set_option linter.unusedVariables false
set_option maxRecDepth 20000
attribute [local irreducible] kh kid pwm tcm pw

set_option maxHeartbeats 2000000 in
/-- spec.l18Person. -/
theorem person_any (B b : Nat) (w : World) (h : Cur B b w) :
    Calls Tryd.prog 23 #[.pointer (some ⟨b, 0, none⟩)] w fun e w' => ∃ s p : Int, 1 ≤ s ∧ s ≤ 1018 ∧ p = pwG 4 s ∧ e = .returned (.agg #[.int .i64 s, .int .i64 p]) ∧ Cur B b w' ∧ w.grownBy w' (some b) := by
  have hlt : b < w.heap.size := h.lt.2
  have hz := heap_alloc_new w (.cells #[.int .i64 0, .int .i64 0] 25)
  have hb := (Below.refl w.heap.size w).alloc (Nat.le_refl _) (.cells #[.int .i64 0, .int .i64 0] 25)
  have hc := h.kept (grown_of_below hb) (by simp) (fun r hr => by cases hr)
  obtain ⟨W0, hW0⟩ : ∃ W, W = w.alloc (.cells #[.int .i64 0, .int .i64 0] 25) := ⟨_, rfl⟩
  rw [← hW0] at hz hb hc
  have HW0 := Lib.hid hW0
  have HZ := Lib.hid hz
  have HC := Lib.hid hc
  have HLt := Lib.hid hlt
  have HG := Lib.hid (grown_none (r := some b) (grown_of_below hb))
  clear h hz hb hc hW0 hlt
  go_enter Tryd.func23, Tryd.ntmps23
  go_wp2_with fail
  rw [← HW0.out]
  refine (below_any B b 1018 _ HC.out (by omega) (by omega)).mono ?_
  rintro e w2 ⟨x, x0, x1, rfl, hc, hg⟩
  replace HZ := Lib.hid ((hg.block _ (lt_of_block HZ.out) (fun h => by injection h with h; have := HLt.out; omega)).trans HZ.out)
  replace HC := Lib.hid hc
  replace HG := Lib.hid (grown_trans HG.out hg)
  clear hc hg
  obtain ⟨s, hs⟩ : ∃ s, s = 1 + x := ⟨_, rfl⟩
  have hsx : 1 + x = s := hs.symm
  have hsb : 1 ≤ s ∧ s ≤ 1018 := by omega
  have HE := Lib.hid (idP_new hsb)
  have HSw : Hid ((Lit.int .i64 s).wf = true) := Lib.hid (wf_i64_of (by omega) (by omega))
  have HSb := Lib.hid hsb
  obtain ⟨p, hp⟩ : ∃ p, p = pwG 4 s := ⟨_, rfl⟩
  rw [← hp] at HE
  have HP := Lib.hid hp
  clear hs hsb hp
  go_wp2_with fail
  refine (spec_nid HSw.out).mono ?_
  rw [HE.out.1, HE.out.2]
  rintro e w3 ⟨rfl, hb⟩
  replace HZ := Lib.hid (stood HZ.out hb)
  replace HC := Lib.hid (HC.out.kept (grown_of_below hb) (by simp) (fun r hr => by cases hr))
  replace HG := Lib.hid (grown_trans HG.out (grown_none (grown_of_below hb)))
  clear hb
  obtain ⟨q0, q1, f0, f1⟩ := pcs HZ.out
  obtain ⟨k9, g9⟩ := pst HZ.out (.int .i64 s) (.int .i64 p)
  obtain ⟨r0, r1, _⟩ := pcs k9
  have HC9 := Lib.hid (HC.out.kept g9 (by intro h; injection h with h; have := HLt.out; omega) (fun r hr => by injection hr with hr; have := HC.out.lt.1; have := HLt.out; omega))
  have HG9 := Lib.hid (grown_own HG.out g9 (fun r hr => by injection hr with hr; omega))
  clear k9 g9 hsx x0 x1
  go_wp2_with fail
  exact bodyPost_ret (v := .agg #[.int .i64 s, .int .i64 p]) (by simp [results, Tryd.results23, go_sem, r0, r1]) rfl ⟨s, p, HSb.out.1, HSb.out.2, HP.out, rfl, HC9.out, HG9.out⟩

set_option maxHeartbeats 4000000 in
/-- spec.DrawFriends. -/
theorem draw_fr (B : Nat) (a : Option Addr) (len cap : Nat) (zs : List Int) (w : World) (hB : B ≤ w.heap.size) (hrow : RowB B .u8 w a len cap zs) (hl : len ≤ maxLen) :
    Calls Tryd.prog 6 #[.slice a len cap] w fun e w' => ∃ s p t q : Int, e = .returned (.tuple #[.agg #[.int .i64 s, .int .i64 p], .agg #[.int .i64 t, .int .i64 q]]) ∧ (1 ≤ s ∧ s ≤ 1018 ∧ p = pwG 4 s) ∧ (1 ≤ t ∧ t ≤ 1018 ∧ q = pwG 4 t) ∧ Below w.heap.size w w' := by
  obtain ⟨z1, z2, hb0⟩ := two_new w (.cells #[.int .i64 0, .int .i64 0] 25) (.cells #[.int .i64 0, .int .i64 0] 25)
  obtain ⟨W0, hW0⟩ : ∃ W, W = (w.alloc (.cells #[.int .i64 0, .int .i64 0] 25)).alloc (.cells #[.int .i64 0, .int .i64 0] 25) := ⟨_, rfl⟩
  rw [← hW0] at z1 z2 hb0
  have HR := Lib.hid (hrow.behind (hb0.mono hB))
  have HW0 := Lib.hid hW0
  have HZ1 := Lib.hid z1
  have HZ2 := Lib.hid z2
  have HB := Lib.hid hb0
  have HBs := Lib.hid (show B ≤ W0.heap.size from Nat.le_trans hB hb0.size)
  clear hrow z1 z2 hb0 hW0 hB
  go_enter Tryd.func6, Tryd.ntmps6
  go_wp2_with fail
  rw [← HW0.out]
  refine (new_any B a len cap zs _ HBs.out HR.out hl).mono ?_
  rintro e w1 ⟨rfl, hc, hg⟩
  obtain ⟨b, hbn⟩ : ∃ b, b = W0.heap.size := ⟨_, rfl⟩
  rw [← hbn] at hc ⊢
  have HLz : Hid (w.heap.size + 1 < b) := Lib.hid (by rw [hbn]; exact lt_of_block HZ2.out)
  have HC := Lib.hid hc
  have hb1 : Below W0.heap.size W0 w1 := (Below.refl _ _).grown hg (Nat.le_refl _) (fun k hk => by cases hk)
  replace HZ1 := Lib.hid (stood HZ1.out hb1)
  replace HZ2 := Lib.hid (stood HZ2.out hb1)
  replace HB := Lib.hid (HB.out.trans (hb1.mono HB.out.size))
  clear hc hg hbn HR hb1
  go_wp2_with fail
  refine (person_any B b _ HC.out).mono ?_
  rintro e w4 ⟨s, p, s0, s1, hp, rfl, hc, hg⟩
  replace HZ1 := Lib.hid ((hg.block _ (lt_of_block HZ1.out) (fun h => by injection h with h; have := HLz.out; omega)).trans HZ1.out)
  replace HZ2 := Lib.hid ((hg.block _ (lt_of_block HZ2.out) (fun h => by injection h with h; have := HLz.out; omega)).trans HZ2.out)
  replace HB := Lib.hid (HB.out.grown hg HB.out.size (fun k hk => by injection hk with hk; have := HLz.out; omega))
  have HS := Lib.hid (show 1 ≤ s ∧ s ≤ 1018 ∧ p = pwG 4 s from ⟨s0, s1, hp⟩)
  have HLb : Hid (b < w4.heap.size) := Lib.hid hc.lt.2
  have hb5 := (Below.refl w4.heap.size w4).alloc (Nat.le_refl _) (.cells #[.int .i64 s, .int .i64 p] 25)
  have ha5 := heap_alloc_new w4 (.cells #[.int .i64 s, .int .i64 p] 25)
  obtain ⟨W5, hW5⟩ : ∃ W, W = w4.alloc (.cells #[.int .i64 s, .int .i64 p] 25) := ⟨_, rfl⟩
  rw [← hW5] at hb5 ha5
  have HA := Lib.hid ha5
  replace HC := Lib.hid (hc.kept (grown_of_below hb5) (by simp) (fun r hr => by cases hr))
  replace HZ1 := Lib.hid (stood HZ1.out hb5)
  replace HZ2 := Lib.hid (stood HZ2.out hb5)
  replace HB := Lib.hid (HB.out.trans (hb5.mono HB.out.size))
  have HW5 := Lib.hid hW5
  clear hc hg s0 s1 hp hb5 ha5 hW5
  go_wp2_with fail
  rw [← HW5.out]
  refine region_till (fun u => u.cell? ⟨w4.heap.size, 0, none⟩ = some (.int .i64 s) ∧ u.cell? ⟨w4.heap.size, 1, none⟩ = some (.int .i64 p)) 4 (by kernel_rfl) ?_
  obtain ⟨wd, hwd⟩ : ∃ x, x = W5.drew := ⟨_, rfl⟩
  replace HA : Hid (wd.heap[w4.heap.size]? = some (.cells #[.int .i64 s, .int .i64 p] 25)) := Lib.hid (by rw [hwd]; exact HA.out)
  replace HZ1 : Hid (wd.heap[w.heap.size]? = some (.cells #[.int .i64 0, .int .i64 0] 25)) := Lib.hid (by rw [hwd]; exact HZ1.out)
  replace HZ2 : Hid (wd.heap[w.heap.size + 1]? = some (.cells #[.int .i64 0, .int .i64 0] 25)) := Lib.hid (by rw [hwd]; exact HZ2.out)
  replace HB : Hid (Below w.heap.size w wd) := Lib.hid (by rw [hwd]; exact HB.out.drew)
  replace HC : Hid (Cur B b wd) := Lib.hid (by rw [hwd]; exact HC.out.kept (grown_of_below (Below.refl _ _).drew) (by simp) (fun r hr => by cases hr))
  rw [← hwd]
  clear hwd
  have s0 : wd.cell? ⟨w4.heap.size, 0, none⟩ = some (.int .i64 s) ∧ wd.cell? ⟨w4.heap.size, 1, none⟩ = some (.int .i64 p) := by obtain ⟨c0, c1, _⟩ := pcs HA.out; exact ⟨c0, c1⟩
  apply Till.take (i := 0) [0, 3, 4]
  · simp only [List.getElem?_toArray, List.getElem?_cons_zero]
    rfl
  · kernel_rfl
  · kernel_rfl
  · kernel_rfl
  · kernel_rfl
  · exact fun _ _ _ h => h
  · first
      | exact Or.inr ⟨by rfl, rfl⟩
      | (refine Or.inl ⟨by rfl, fun wq hwq => ?_⟩
         dsimp only at hwq
         go_simp
         first
           | done
           | rfl)
  · exact s0
  simp only [Act.put, List.setIfInBounds_toArray, List.set_cons_zero, List.set_cons_succ]
  apply Till.take (i := 1) [1, 2, 4]
  · simp only [List.getElem?_toArray, List.getElem?_cons_succ, List.getElem?_cons_zero]
    rfl
  · kernel_rfl
  · kernel_rfl
  · kernel_rfl
  · kernel_rfl
  · exact fun _ _ _ h => h
  · first
      | exact Or.inr ⟨by rfl, rfl⟩
      | (refine Or.inl ⟨by rfl, fun wq hwq => ?_⟩
         dsimp only at hwq
         go_simp
         first
           | done
           | rfl)
  · exact s0
  simp only [Act.put, List.setIfInBounds_toArray, List.set_cons_zero, List.set_cons_succ]
  apply Till.one (i := 2)
  · kernel_rfl
  · simp only [List.getElem?_toArray, List.getElem?_cons_succ, List.getElem?_cons_zero]
    rfl
  intro K hK
  go_simp
  refine (person_any B b _ HC.out).mono ?_
  rintro e' w6 ⟨t, q, t0, t1, hq, he, hc, hg⟩
  subst he
  replace HA := Lib.hid ((hg.block _ (lt_of_block HA.out) (fun h => by injection h with h; have := HLb.out; omega)).trans HA.out)
  replace HZ1 := Lib.hid ((hg.block _ (lt_of_block HZ1.out) (fun h => by injection h with h; have := HLz.out; omega)).trans HZ1.out)
  replace HZ2 := Lib.hid ((hg.block _ (lt_of_block HZ2.out) (fun h => by injection h with h; have := HLz.out; omega)).trans HZ2.out)
  replace HB := Lib.hid (HB.out.grown hg HB.out.size (fun k hk => by injection hk with hk; have := HLz.out; omega))
  have HT := Lib.hid (show 1 ≤ t ∧ t ≤ 1018 ∧ q = pwG 4 t from ⟨t0, t1, hq⟩)
  clear hc hg t0 t1 hq HC s0
  have s0 : w6.cell? ⟨w4.heap.size, 0, none⟩ = some (.int .i64 s) ∧ w6.cell? ⟨w4.heap.size, 1, none⟩ = some (.int .i64 p) := by obtain ⟨c0, c1, _⟩ := pcs HA.out; exact ⟨c0, c1⟩
  refine hK.out _ _ (Or.inr s0) ?_
  clear hK K
  try simp only [Act.put, List.setIfInBounds_toArray, List.set_cons_zero, List.set_cons_succ]
  obtain ⟨q0, q1, f0, f1⟩ := pcs HZ1.out
  obtain ⟨k9, g9⟩ := pst HZ1.out (.int .i64 s) (.int .i64 p)
  have hz2 := (g9.block _ (lt_of_block HZ2.out) (fun h => by injection h with h; omega)).trans HZ2.out
  have hA9 := (g9.block _ (lt_of_block HA.out) (fun h => by injection h with h; have := HLb.out; have := HLz.out; omega)).trans HA.out
  have s9 := pcs hA9
  obtain ⟨q2, q3, f2, f3⟩ := pcs hz2
  obtain ⟨k8, g8⟩ := pst hz2 (.int .i64 t) (.int .i64 q)
  have k7 := (g8.block _ (lt_of_block k9) (fun h => by injection h with h; omega)).trans k9
  obtain ⟨r0, r1, _⟩ := pcs k7
  obtain ⟨r2, r3, _⟩ := pcs k8
  have HB8 := Lib.hid ((HB.out.grown g9 HB.out.size (fun k hk => by injection hk with hk; omega)).grown g8 (by have := HB.out.size; have := g9.size; omega) (fun k hk => by injection hk with hk; omega))
  have S9 := Lib.hid s9
  clear k9 g9 hz2 hA9 s9 k8 g8 k7
  apply Till.one (i := 3)
  · kernel_rfl
  · simp only [List.getElem?_toArray, List.getElem?_cons_succ, List.getElem?_cons_zero]
    rfl
  intro K hK
  go_simp
  skip
  refine hK.out _ _ (Or.inr ⟨S9.out.1, S9.out.2.1⟩) ?_
  clear hK K
  try simp only [Act.put, List.setIfInBounds_toArray, List.set_cons_zero, List.set_cons_succ]
  apply Till.one (i := 4)
  · kernel_rfl
  · simp only [List.getElem?_toArray, List.getElem?_cons_succ, List.getElem?_cons_zero]
    rfl
  intro K hK
  go_simp
  skip
  refine hK.out _ _ (Or.inl (by rfl)) ?_
  clear hK K
  try simp only [Act.put, List.setIfInBounds_toArray, List.set_cons_zero, List.set_cons_succ]
  refine Till.done (by kernel_rfl) ?_ _
  go_wp2_with fail
  exact bodyPost_ret (v := .tuple #[.agg #[.int .i64 s, .int .i64 p], .agg #[.int .i64 t, .int .i64 q]]) (by simp [results, Tryd.results6, go_sem, r0, r1, r2, r3]) rfl ⟨s, p, t, q, rfl, HS.out, HT.out, HB8.out⟩

end Go.Proofs.YtlhpjfhglkngfaaDoor
