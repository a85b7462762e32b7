/- The document's MakeQuery: what it gives. No conditions but a size that a machine holds. -/
import Derived.Test.YtigeghmkkppldaaQuN
import Derived.Test.YtigeghmkkppldaaBa6
import Derived.Test.YtigeghmkkppldaaCopyL
import Derived.Test.YtigeghmkkppldaaBaM
import Derived.Test.YtigeghmkkppldaaBa5
import Derived.Test.YtigeghmkkppldaaSh1
import Derived.Test.YtigeghmkkppldaaSel2
import Derived.Test.YtigeghmkkppldaaSel3
import Derived.Test.YtigeghmkkppldaaSel4
namespace Go.Proofs.Ytigeghmkkppldaa
open Go Go.RowKit
set_option linter.unusedVariables false
attribute [local irreducible] kh

/-- The last selection, with the first j others alone. -/
def lastQ (r x : Int) (s : List Int) (j : Nat) : List Int := xsAll (unitV r x) ((rnds r s).take j)
theorem lastQ_succ {r x : Int} {s : List Int} {j : Nat} (hj : j < s.length) : xs2 (lastQ r x s j) (rsl (s.getD j 0) r) = lastQ r x s (j + 1) := xsAll_take (rnds_get hj)

set_option maxHeartbeats 2000000 in
/-- spec.MakeQuery. -/
theorem spec_mkq {lim : Nat} {w : World} {v : Value} {r x : Int} {ss : List Int} (hv : Rd lim .i64 w v ss) (hl2 : lim ≤ w.heap.size) (hr : (Lit.int .i64 r).wf = true) (hx : (Lit.int .i64 x).wf = true) (hs : ss.length ≤ 1099511627776) :
    Calls Try.prog 25 #[.int .i64 r, .int .i64 x, v] w fun e w' => ∃ v', e = .returned v' ∧ Own2 27 3 .i64 (ival w.heap.size w'.heap.size) w' v' (mkq r x ss) ∧ Below w.heap.size w w' := by
  obtain ⟨i1, hi', hy0, hy1, hy2⟩ := info_parts infoi64s
  have Hhi' := Lib.hid hi'
  have hlv := hv.len
  have HRw := Lib.hid hr
  have HXw := Lib.hid hx
  have b1 := (Below.refl w.heap.size w).alloc (Nat.le_refl _) (.cells #[] 27)
  have HB1 := Lib.hid b1
  have HV := Lib.hid hv
  obtain ⟨a', cap', rfl, h1', h2', hcl⟩ := hv.open
  have Hcl := Lib.hid hcl
  unfold maxLen at h2' hlv
  have HO : Hid (Own2 27 3 .i64 (ival w.heap.size (w.alloc (.cells #[] 27)).heap.size) (w.alloc (.cells #[] 27)) (.slice (some ⟨w.heap.size, 0, none⟩) 0 0) []) := Lib.hid (Own2.lit _ _ _ (by unfold ival; simp))
  have HCw : Hid (∀ w1 : World, Calls Try.prog 67 #[.int .i64 ((ss.length : Int) + 1)] w1 fun e w' => e = .returned (.bool (inR ((ss.length : Int) + 1) 2 4)) ∧ w' = w1) := Lib.hid (fun w1 => count_any (w := w1) (n := (ss.length : Int) + 1) (wf_i64_of (by omega) (by omega)))
  clear hv hcl hi' hr hx b1
  go_enter Try.func25, Try.ntmps25
  go_wp2_with fail
  refine (spec_us HRw.out HXw.out).mono ?_
  rintro e w1 ⟨v1, rfl, h1, hb⟩
  have HS1 := Lib.hid h1.2.1
  obtain ⟨a1, cap1, hv1, _⟩ := h1.open
  have HL1 := Lib.hid h1
  replace HO := Lib.hid (HO.out.next hb)
  have HB2 := Lib.hid (HB1.out.trans (hb.mono HB1.out.size))
  have HAp : Hid (∀ b, b = w.heap.size → b < (w.alloc (.cells #[] 27)).heap.size) := Lib.hid (fun b hb => by subst hb; simp)
  obtain ⟨nU, hnU⟩ : ∃ n, n = (unitV r x).length := ⟨_, rfl⟩
  rw [← hnU] at hv1
  have HnU := Lib.hid hnU
  subst hv1
  have hn64 : nU ≤ 64 := by rw [hnU]; exact unitV_len _ _
  have HSz : Hid (w.heap.size + 1 ≤ w1.heap.size) := Lib.hid (by have := hb.size; rw [World.size_alloc] at this; exact this)
  clear h1 hb hnU
  by_cases h0 : nU = 0
  · have e1 : ((nU : Int) == 0) = true := by simp; exact h0
    have HE : Hid (mkq r x ss = []) := Lib.hid (mkq_no (fun h => h.1 (by rw [← HnU.out]; exact h0)))
    clear h0
    go_wp2_with fail
    go_ret
    exact ⟨_, rfl, by rw [HE.out]; exact HO.out.mono (fun b hb => by have := HSz.out; unfold ival at hb ⊢; simp at hb; omega), HB2.out⟩
  · have e1 : ((nU : Int) == 0) = false := by simp; exact h0
    have HN : Hid ((unitV r x).length ≠ 0) := Lib.hid (by rw [← HnU.out]; exact h0)
    clear h0
    by_cases hin : 1 ≤ ss.length ∧ ss.length ≤ 3
    · have HI := Lib.hid (inR_yes (x := (ss.length : Int) + 1) (a := 2) (b := 4) (by omega))
      have HY := Lib.hid (mkq_yes (r := r) (x := x) (s := ss) ⟨HN.out, hin.1, hin.2⟩)
      clear hin
      go_wp2_with fail
      refine (HCw.out w1).mono ?_
      rw [HI.out]
      rintro e w3 ⟨rfl, hw⟩
      subst hw
      have HO3 : Hid (Own2 27 3 .i64 (ival w.heap.size (w.heap.size + 1)) w3 (.slice (some ⟨w.heap.size, 0, none⟩) 0 0) ((rnds r ss).take 0)) := Lib.hid (by
        rw [List.take_zero]
        exact HO.out.mono (fun b hb => by unfold ival at hb ⊢; simp at hb; omega))
      have HL3 : Hid (Own 3 .i64 (w.heap.size + 1) w3 (.slice a1 nU cap1) (lastQ r x ss 0)) := Lib.hid (HL1.out.mono (by simp))
      have HB3 := Lib.hid HB2.out
      clear HO HL1 HAp HS1
      go_wp2_with fail
      go_loopw [7, 8, 9] (fun s t i wr => ∃ (j : Nat) (F : Nat → Prop), i = .int .i64 j ∧ j ≤ ss.length ∧ Own2 27 3 .i64 F wr s ((rnds r ss).take j) ∧ (∀ b, F b → w.heap.size ≤ b ∧ b < wr.heap.size) ∧
        Own 3 .i64 w.heap.size wr t (lastQ r x ss j) ∧ (∀ r, t.ownBlock = some r → ¬ F r) ∧ Below w.heap.size w wr) (fun _ _ i _ => ss.length - (intOf i).toNat)
      case atStart =>
        exact ⟨0, ival w.heap.size (w.heap.size + 1), rfl, Nat.zero_le _, HO3.out, fun b hb => by have := HSz.out; unfold ival at hb; omega, HL3.out.mono (by omega), fun r hr hb => by have := (HL3.out.lt r hr).1; unfold ival at hb; omega, HB3.out⟩
      case round =>
        obtain ⟨j, F, rfl, hj, hO, hF, hL, hA, hB⟩ := hrel
        have HO := Lib.hid hO
        have HF := Lib.hid hF
        have HL := Lib.hid hL
        have HA := Lib.hid hA
        have HB := Lib.hid hB
        clear hO hF hL hA hB HO3 HL3 HB3
        by_cases hlt : j < ss.length
        · have e2 : decide ((j : Int) < (ss.length : Int)) = true := by simp; omega
          have HS0 := Lib.hid HB.out.size
          obtain ⟨bs, os, rfl, hbs, hcell⟩ := Hcl.out (by omega)
          have c1 := hcell wr (HB.out.mono hl2) j hlt
          have HZ := Lib.hid (HV.out.wf hlt)
          have HT := Lib.hid (lastQ_succ (r := r) (x := x) hlt)
          have HTs : Hid ((rnds r ss).take j ++ [rsl (ss.getD j 0) r] = (rnds r ss).take (j + 1)) := Lib.hid (by rw [List.take_add_one, rnds_get hlt]; rfl)
          obtain ⟨z, hz⟩ : ∃ z, z = ss.getD j 0 := ⟨_, rfl⟩
          rw [← hz] at c1 HZ HT HTs
          clear hcell hz
          go_wp2_with fail
          refine (spec_rs HZ.out HRw.out).mono ?_
          rintro e w4 ⟨v4, rfl, h4, hb4⟩
          obtain ⟨a4, cap4, hv4, _⟩ := h4.open
          obtain ⟨L4, hL4⟩ : ∃ L, L = (rsl z r).length := ⟨_, rfl⟩
          rw [← hL4] at hv4
          subst hv4
          have H4 := Lib.hid h4
          replace HO := Lib.hid (HO.out.next hb4)
          replace HL := Lib.hid (HL.out.next hb4)
          replace HB := Lib.hid (HB.out.trans (hb4.mono HB.out.size))
          have HS4 := Lib.hid hb4.size
          clear h4 hb4 hL4
          go_wp2_with fail
          refine (spec_xs HL.out.rd H4.out.rd (Nat.le_refl _) (Nat.le_refl _)).mono ?_
          rw [HT.out]
          rintro e w5 ⟨v5, rfl, h5, hb5⟩
          have H5 := Lib.hid h5
          have HAp : Hid (Apart (.slice a4 L4 cap4) v5) := Lib.hid (H4.out.apart h5)
          replace H4 := Lib.hid ((H4.out.next hb5).alloc (.cells #[.slice a4 L4 cap4] 27))
          replace HO := Lib.hid ((HO.out.next hb5).alloc (.cells #[.slice a4 L4 cap4] 27))
          have HS5 := Lib.hid hb5.size
          have HB5 := Lib.hid ((HB.out.trans (hb5.mono HB.out.size)).alloc (by have := HB.out.size; have := hb5.size; omega) (.cells #[.slice a4 L4 cap4] 27))
          replace H5 := Lib.hid (H5.out.alloc (.cells #[.slice a4 L4 cap4] 27))
          have HFlt : Hid (∀ b, F b → b < (w5.alloc (.cells #[.slice a4 L4 cap4] 27)).heap.size) := Lib.hid (fun b hb => by have h1 := HF.out b hb; have h2 := HS4.out; have h3 := HS5.out; simp; omega)
          have HFu : Hid (∀ r, (Value.slice a4 L4 cap4).ownBlock = some r → ¬ F r) := Lib.hid (fun r hr hb => by have h1 := HF.out r hb; have h2 := (H4.out.lt r hr).1; omega)
          have HLb : Hid ((((rnds r ss).take j).length + 1) * 24 ≤ 140737488355328) := Lib.hid (by rw [List.length_take, rnds_len]; omega)
          clear h5 hb5
          go_wp2_with (first | (at_builtin; refine append_rowF _ rfl _ _ 32 rfl 27 3 i1 24 Try.underlying32 Hhi'.out hy0 hy1 hy2 (by omega) rfl HO.out HFlt.out rfl (cell_one_new _ _ _ 0 _ rfl) (H4.out.mono (Nat.zero_le _)) HFu.out HLb.out ?_))
          intro v6 w6 h7 h8 h9 h10
          rw [HTs.out] at h7
          have H7 := Lib.hid h7
          have H8 := Lib.hid h8
          have H9 := Lib.hid h9
          have H10 := Lib.hid h10
          clear h7 h8 h9 h10
          go_wp2_with fail
          go_roundw
          case rel =>
            have inv := fun r hr => HF.out r (HO.out.in_ r hr)
            have hs := H8.out.size
            have hs4 := HS4.out
            have hs0 := HS0.out
            have hs5 := HS5.out
            have ha : ∀ x, (w5.alloc (.cells #[x] 27)).heap.size = w5.heap.size + 1 := fun x => World.size_alloc _ _
            rw [ha] at hs
            refine ⟨j + 1, _, by simp, hlt, H7.out, fun b hb => ?_, ?_, fun r hr hb => ?_, ?_⟩
            · rcases hb with hb | hb | hb
              · have := HF.out b hb; omega
              · have := H4.out.lt b hb
                rw [ha] at this
                have := HB.out.size
                omega
              · have h3 := H10.out b hb
                refine ⟨?_, h3⟩
                rcases H9.out with h9 | h9
                · rw [h9] at hb
                  exact (inv b hb).1
                · first | rw [h9, ha] at hb | rw [h9] at hb
                  injection hb with hb
                  have := HB.out.size
                  omega
            · refine (H5.out.kept H8.out ?_).mono (by have := HB.out.size; omega)
              cases hv5 : v5.ownBlock with
              | none => exact .inl rfl
              | some r =>
                refine .inr fun e => ?_
                have h1 := inv r e.symm
                have h2 := (H5.out.lt r hv5).1
                omega
            · have h2 := H5.out.lt r hr
              rw [ha] at h2
              rcases hb with hb | hb | hb
              · have := HF.out r hb; omega
              · exact HAp.out r hb hr
              · rcases H9.out with h9 | h9
                · rw [h9] at hb
                  have := inv r hb; omega
                · first | rw [h9, ha] at hb | rw [h9] at hb
                  injection hb with hb
                  omega
            · refine HB5.out.grown H8.out HB5.out.size (fun k hk => ?_)
              exact (inv k hk).1
          case measure => simp [intOf]; omega
        · have e2 : decide ((j : Int) < (ss.length : Int)) = false := by simp; omega
          have ej : j = ss.length := by omega
          subst ej
          have HT : Hid ((rnds r ss).take ss.length ++ [lastQ r x ss ss.length] = mkq r x ss) := Lib.hid (by
            unfold lastQ
            rw [HY.out, List.take_of_length_le (by rw [rnds_len]; exact Nat.le_refl _)])
          obtain ⟨a5, cap5, hv5, _⟩ := HL.out.open
          obtain ⟨L5, hL5⟩ : ∃ L, L = (lastQ r x ss ss.length).length := ⟨_, rfl⟩
          rw [← hL5] at hv5
          subst hv5
          replace HL := Lib.hid (HL.out.alloc (.cells #[.slice a5 L5 cap5] 27))
          replace HO := Lib.hid (HO.out.alloc (.cells #[.slice a5 L5 cap5] 27))
          have HB5 := Lib.hid (HB.out.alloc HB.out.size (.cells #[.slice a5 L5 cap5] 27))
          have HFlt : Hid (∀ b, F b → b < (wr.alloc (.cells #[.slice a5 L5 cap5] 27)).heap.size) := Lib.hid (fun b hb => by have h1 := HF.out b hb; simp; omega)
          have HLb : Hid ((((rnds r ss).take ss.length).length + 1) * 24 ≤ 140737488355328) := Lib.hid (by rw [List.length_take, rnds_len]; omega)
          clear hL5
          go_wp2_with (first | (at_builtin; refine append_rowF _ rfl _ _ 32 rfl 27 3 i1 24 Try.underlying32 Hhi'.out hy0 hy1 hy2 (by omega) rfl HO.out HFlt.out rfl (cell_one_new _ _ _ 0 _ rfl) (HL.out.mono (Nat.zero_le _)) HA.out HLb.out ?_))
          intro v6 w6 h7 h8 h9 h10
          rw [HT.out] at h7
          have hbel : Below w.heap.size w w6 := HB5.out.grown h8 HB5.out.size (fun k hk => (HF.out k (HO.out.in_ k hk)).1)
          have h7' := h7.mono (G := ival w.heap.size w6.heap.size) (fun b hb => by
            have hs := h8.size
            have ha : ∀ x, (wr.alloc (.cells #[x] 27)).heap.size = wr.heap.size + 1 := fun x => World.size_alloc _ _
            rw [ha] at hs
            rcases hb with hb | hb | hb
            · have := HF.out b hb; unfold ival; omega
            · have := HL.out.lt b hb
              rw [ha] at this
              unfold ival; omega
            · have h3 := h10 b hb
              refine ⟨?_, h3⟩
              rcases h9 with h9 | h9
              · rw [h9] at hb
                exact (HF.out b (HO.out.in_ b hb)).1
              · first | rw [h9, ha] at hb | rw [h9] at hb
                injection hb with hb
                have := HB.out.size
                omega)
          have H7 := Lib.hid h7'
          have H8 := Lib.hid hbel
          clear h7 h7' h8 h9 h10 hbel
          go_wp2_with fail
          go_ret
          exact ⟨_, rfl, H7.out, H8.out⟩
    · have HI := Lib.hid (inR_no (x := (ss.length : Int) + 1) (a := 2) (b := 4) (by omega))
      have HE : Hid (mkq r x ss = []) := Lib.hid (mkq_no (fun h => hin h.2))
      clear hin
      go_wp2_with fail
      refine (HCw.out w1).mono ?_
      rw [HI.out]
      rintro e w3 ⟨rfl, hw⟩
      subst hw
      go_wp2_with fail
      go_ret
      exact ⟨_, rfl, by rw [HE.out]; exact HO.out.mono (fun b hb => by have := HSz.out; unfold ival at hb ⊢; simp at hb; omega), HB2.out⟩

end Go.Proofs.Ytigeghmkkppldaa
