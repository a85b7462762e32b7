/- The document's ShareBytes: what it gives. No conditions but a size that a machine holds. -/
import Derived.Test.YtlogljbbegklbaaSh2
namespace Go.Proofs.Ytlogljbbegklbaa
open Go Go.RowKit
set_option linter.unusedVariables false
attribute [local irreducible] kh

set_option maxHeartbeats 2000000 in
/-- spec.ShareBytes. -/
theorem spec_shB {l1 l2 : Nat} {w : World} {u v : Value} {xs ss : List Int} (hu : Rd l1 .u8 w u xs) (hv : Rd l2 .i64 w v ss) (hl1 : l1 ≤ w.heap.size) (hl2 : l2 ≤ w.heap.size) (hs : ss.length ≤ 1099511627776) :
    Calls Try.prog 23 #[u, v] w fun e w' => ∃ v', e = .returned v' ∧ Own2 22 5 .u8 (ival w.heap.size w'.heap.size) w' v' (shB xs ss) ∧ Below w.heap.size w w' := by
  obtain ⟨i0, hi, hz0, hz1, hz2⟩ := info_parts infou8
  obtain ⟨i1, hi', hy0, hy1, hy2⟩ := info_parts infou8s
  have Hhi := Lib.hid hi
  have Hhi' := Lib.hid hi'
  have HX := Lib.hid hu.u8s
  have hlen := hu.len
  have hlv := hv.len
  have b1 := (Below.refl w.heap.size w).alloc (Nat.le_refl _) (.cells #[] 22)
  have HB1 := Lib.hid b1
  have HU := Lib.hid hu
  have HV := Lib.hid hv
  obtain ⟨a, cap, rfl, h1, h2, _⟩ := hu.open
  obtain ⟨a', cap', rfl, h1', h2', hcl⟩ := hv.open
  have Hcl := Lib.hid hcl
  unfold maxLen at h2 h2' hlen hlv
  have HO : Hid (Own2 22 5 .u8 (ival w.heap.size (w.alloc (.cells #[] 22)).heap.size) (w.alloc (.cells #[] 22)) (.slice (some ⟨w.heap.size, 0, none⟩) 0 0) []) := Lib.hid (Own2.lit _ _ _ (by unfold ival; simp))
  have HC := Lib.hid (count_any (w := w.alloc (.cells #[] 22)) (n := (ss.length : Int) + 1) (wf_i64_of (by omega) (by omega)))
  clear hu hv hcl hi hi' b1
  by_cases hin : 1 ≤ ss.length ∧ ss.length ≤ 3
  · rw [inR_yes (x := (ss.length : Int) + 1) (by omega)] at HC
    by_cases hx : xs.length ≤ 400
    · have e1 : decide ((400 : Int) < (xs.length : Int)) = false := by simp; omega
      have hy : xs.length ≤ 400 ∧ 1 ≤ ss.length ∧ ss.length ≤ 3 := ⟨hx, hin.1, hin.2⟩
      have HY := Lib.hid (shB_yes hy)
      have HE0 := Lib.hid (lastTo_zero (s := ss) HX.out)
      have HOl : Hid (Own 5 .u8 (w.heap.size + 1) ((w.alloc (.cells #[] 22)).alloc (.cells #[] 5)) (.slice (some ⟨w.heap.size + 1, 0, none⟩) 0 0) []) := Lib.hid (by
        have := Own.lit (w := w.alloc (.cells #[] 22)) (B := w.heap.size + 1) 5 .u8 (by simp)
        rwa [World.size_alloc] at this)
      have HB2 := Lib.hid (HB1.out.alloc HB1.out.size (.cells #[] 5))
      have HU2 := Lib.hid (HU.out.behind (HB2.out.mono hl1))
      have HO2 := Lib.hid (HO.out.alloc (.cells #[] 5))
      have HLa : Hid ((([] : List Int).length + xs.length) * 1 ≤ 140737488355328) := Lib.hid (by simp; omega)
      clear hy
      go_enter Try.func23, Try.ntmps23
      go_wp2_with fail
      refine HC.out.mono ?_
      rintro e w1 ⟨rfl, hw⟩
      subst hw
      go_wp2_with (first | (at_builtin; refine append_rd _ rfl _ _ 22 rfl 5 i0 (.int .u8 0) 1 Try.underlying22 Hhi.out hz0 hz1 hz2 rfl (by omega) rfl HOl.out rfl HU2.out HLa.out ?_))
      intro v3 w3 h3 h4
      have HL3 : Hid (Own 5 .u8 (w.heap.size + 1) w3 v3 (lastTo xs ss 0)) := Lib.hid (by rw [HE0.out]; exact h3)
      have HB3 := Lib.hid (HB2.out.trans (HOl.out.below (by omega) h4))
      have HO3 : Hid (Own2 22 5 .u8 (ival w.heap.size (w.heap.size + 1)) w3 (.slice (some ⟨w.heap.size, 0, none⟩) 0 0) ((strs (xs.length : Int) ss).take 0)) := Lib.hid (by
        rw [List.take_zero]
        refine (HO2.out.mono (G := ival w.heap.size (w.heap.size + 1)) (fun b hb => by unfold ival at hb ⊢; simp at hb; omega)).keptF (G := fun b => w.heap.size + 1 ≤ b) (KeptF.of_grown h4 (fun b hb => by have := HOl.out.lt b hb; omega)) (fun b hb hb' => by unfold ival at hb; omega))
      clear h3 h4
      go_wp2_with fail
      go_loopw [5, 6, 7] (fun s t i wr => ∃ (j : Nat) (F : Nat → Prop), i = .int .i64 j ∧ j ≤ ss.length ∧ Own2 22 5 .u8 F wr s ((strs (xs.length : Int) ss).take j) ∧ (∀ b, F b → w.heap.size ≤ b ∧ b < wr.heap.size) ∧
        Own 5 .u8 w.heap.size wr t (lastTo xs ss j) ∧ (∀ r, t.ownBlock = some r → ¬ F r) ∧ Below w.heap.size w wr) (fun _ _ i _ => ss.length - (intOf i).toNat)
      case atStart =>
        exact ⟨0, ival w.heap.size (w.heap.size + 1), rfl, Nat.zero_le _, HO3.out, fun b hb => by have := HL3.out.2.1; unfold ival at hb; omega, HL3.out.mono (by omega), fun r hr hb => by have := (HL3.out.lt r hr).1; unfold ival at hb; omega, HB3.out⟩
      case round =>
        obtain ⟨j, F, rfl, hj, hO, hF, hL, hA, hB⟩ := hrel
        have HO := Lib.hid hO
        have HF := Lib.hid hF
        have HL := Lib.hid hL
        have HA := Lib.hid hA
        have HB := Lib.hid hB
        clear hO hF hL hA hB HO3 HL3 HB3 HO2 HOl HU2 HB2
        by_cases hlt : j < ss.length
        · have e2 : decide ((j : Int) < (ss.length : Int)) = true := by simp; omega
          have HS0 := Lib.hid HB.out.size
          obtain ⟨bs, os, rfl, hbs, hcell⟩ := Hcl.out (by omega)
          have c1 := hcell wr (HB.out.mono hl2) j hlt
          have HZ := Lib.hid (HV.out.wf hlt)
          have HT := Lib.hid (lastTo_succ (b := xs) hlt)
          have HTs : Hid ((strs (xs.length : Int) ss).take j ++ [strm (ss.getD j 0) (xs.length : Int)] = (strs (xs.length : Int) ss).take (j + 1)) := Lib.hid (by rw [List.take_add_one, strs_get hlt]; rfl)
          have HLl := Lib.hid (lastTo_len xs ss j)
          have HLs := Lib.hid (strm_len (ss.getD j 0) (xs.length : Int))
          obtain ⟨z, hz⟩ : ∃ z, z = ss.getD j 0 := ⟨_, rfl⟩
          rw [← hz] at c1 HZ HT HTs HLs
          clear hcell hz
          go_wp2_with fail
          refine (spec_sb HZ.out (wf_i64_of (by omega) (by omega))).mono ?_
          rintro e w4 ⟨v4, rfl, h4, hb4⟩
          obtain ⟨a4, cap4, hv4, _⟩ := h4.open
          obtain ⟨L4, hL4⟩ : ∃ L, L = (strm z (xs.length : Int)).length := ⟨_, rfl⟩
          rw [← hL4] at hv4
          subst hv4
          have H4 := Lib.hid h4
          replace HO := Lib.hid (HO.out.next hb4)
          replace HL := Lib.hid (HL.out.next hb4)
          replace HB := Lib.hid (HB.out.trans (hb4.mono HB.out.size))
          have HS4 := Lib.hid hb4.size
          clear h4 hb4 hL4
          go_wp2_with fail
          refine (spec_xb HL.out.rd H4.out.rd (Nat.le_refl _) (Nat.le_refl _) (by have h1 := HLl.out; have h2 := HLs.out; omega)).mono ?_
          rw [HT.out]
          rintro e w5 ⟨v5, rfl, h5, hb5⟩
          have H5 := Lib.hid h5
          have HAp : Hid (Apart (.slice a4 L4 cap4) v5) := Lib.hid (H4.out.apart h5)
          replace H4 := Lib.hid ((H4.out.next hb5).alloc (.cells #[.slice a4 L4 cap4] 22))
          replace HO := Lib.hid ((HO.out.next hb5).alloc (.cells #[.slice a4 L4 cap4] 22))
          have HS5 := Lib.hid hb5.size
          have HB5 := Lib.hid ((HB.out.trans (hb5.mono HB.out.size)).alloc (by have := HB.out.size; have := hb5.size; omega) (.cells #[.slice a4 L4 cap4] 22))
          replace H5 := Lib.hid (H5.out.alloc (.cells #[.slice a4 L4 cap4] 22))
          have HFlt : Hid (∀ b, F b → b < (w5.alloc (.cells #[.slice a4 L4 cap4] 22)).heap.size) := Lib.hid (fun b hb => by have h1 := HF.out b hb; have h2 := HS4.out; have h3 := HS5.out; simp; omega)
          have HFu : Hid (∀ r, (Value.slice a4 L4 cap4).ownBlock = some r → ¬ F r) := Lib.hid (fun r hr hb => by have h1 := HF.out r hb; have h2 := (H4.out.lt r hr).1; omega)
          have HLb : Hid ((((strs (xs.length : Int) ss).take j).length + 1) * 24 ≤ 140737488355328) := Lib.hid (by rw [List.length_take, strs_len]; omega)
          clear h5 hb5
          go_wp2_with (first | (at_builtin; refine append_rowF _ rfl _ _ 27 rfl 22 5 i1 24 Try.underlying27 Hhi'.out hy0 hy1 hy2 (by omega) rfl HO.out HFlt.out rfl (cell_one_new _ _ _ 0 _ rfl) (H4.out.mono (Nat.zero_le _)) HFu.out HLb.out ?_))
          intro v6 w6 h7 h8 h9 h10
          rw [HTs.out] at h7
          have H7 := Lib.hid h7
          have H8 := Lib.hid h8
          have H9 := Lib.hid h9
          have H10 := Lib.hid h10
          clear h7 h8 h9 h10
          go_wp2_with fail
          go_roundw
          case rel =>
            have inv := fun r hr => HF.out r (HO.out.in_ r hr)
            have hs := H8.out.size
            have hs4 := HS4.out
            have hs0 := HS0.out
            have hs5 := HS5.out
            have ha : ∀ x, (w5.alloc (.cells #[x] 22)).heap.size = w5.heap.size + 1 := fun x => World.size_alloc _ _
            rw [ha] at hs
            refine ⟨j + 1, _, by simp, hlt, H7.out, fun b hb => ?_, ?_, fun r hr hb => ?_, ?_⟩
            · rcases hb with hb | hb | hb
              · have := HF.out b hb; omega
              · have := H4.out.lt b hb
                rw [ha] at this
                have := HB.out.size
                omega
              · have h3 := H10.out b hb
                refine ⟨?_, h3⟩
                rcases H9.out with h9 | h9
                · rw [h9] at hb
                  exact (inv b hb).1
                · first | rw [h9, ha] at hb | rw [h9] at hb
                  injection hb with hb
                  have := HB.out.size
                  omega
            · refine (H5.out.kept H8.out ?_).mono (by have := HB.out.size; omega)
              cases hv5 : v5.ownBlock with
              | none => exact .inl rfl
              | some r =>
                refine .inr fun e => ?_
                have h1 := inv r e.symm
                have h2 := (H5.out.lt r hv5).1
                omega
            · have h2 := H5.out.lt r hr
              rw [ha] at h2
              rcases hb with hb | hb | hb
              · have := HF.out r hb; omega
              · exact HAp.out r hb hr
              · rcases H9.out with h9 | h9
                · rw [h9] at hb
                  have := inv r hb; omega
                · first | rw [h9, ha] at hb | rw [h9] at hb
                  injection hb with hb
                  omega
            · refine HB5.out.grown H8.out HB5.out.size (fun k hk => ?_)
              exact (inv k hk).1
          case measure => simp [intOf]; omega
        · have e2 : decide ((j : Int) < (ss.length : Int)) = false := by simp; omega
          have ej : j = ss.length := by omega
          subst ej
          have HT : Hid ((strs (xs.length : Int) ss).take ss.length ++ [lastTo xs ss ss.length] = shB xs ss) := Lib.hid (by
            rw [HY.out, lastTo_full, List.take_of_length_le (by rw [strs_len]; exact Nat.le_refl _)])
          obtain ⟨a5, cap5, hv5, _⟩ := HL.out.open
          obtain ⟨L5, hL5⟩ : ∃ L, L = (lastTo xs ss ss.length).length := ⟨_, rfl⟩
          rw [← hL5] at hv5
          subst hv5
          replace HL := Lib.hid (HL.out.alloc (.cells #[.slice a5 L5 cap5] 22))
          replace HO := Lib.hid (HO.out.alloc (.cells #[.slice a5 L5 cap5] 22))
          have HB5 := Lib.hid (HB.out.alloc HB.out.size (.cells #[.slice a5 L5 cap5] 22))
          have HFlt : Hid (∀ b, F b → b < (wr.alloc (.cells #[.slice a5 L5 cap5] 22)).heap.size) := Lib.hid (fun b hb => by have h1 := HF.out b hb; simp; omega)
          have HLb : Hid ((((strs (xs.length : Int) ss).take ss.length).length + 1) * 24 ≤ 140737488355328) := Lib.hid (by rw [List.length_take, strs_len]; omega)
          clear hL5
          go_wp2_with (first | (at_builtin; refine append_rowF _ rfl _ _ 27 rfl 22 5 i1 24 Try.underlying27 Hhi'.out hy0 hy1 hy2 (by omega) rfl HO.out HFlt.out rfl (cell_one_new _ _ _ 0 _ rfl) (HL.out.mono (Nat.zero_le _)) HA.out HLb.out ?_))
          intro v6 w6 h7 h8 h9 h10
          rw [HT.out] at h7
          have hbel : Below w.heap.size w w6 := HB5.out.grown h8 HB5.out.size (fun k hk => (HF.out k (HO.out.in_ k hk)).1)
          have h7' := h7.mono (G := ival w.heap.size w6.heap.size) (fun b hb => by
            have hs := h8.size
            have ha : ∀ x, (wr.alloc (.cells #[x] 22)).heap.size = wr.heap.size + 1 := fun x => World.size_alloc _ _
            rw [ha] at hs
            rcases hb with hb | hb | hb
            · have := HF.out b hb; unfold ival; omega
            · have := HL.out.lt b hb
              rw [ha] at this
              unfold ival; omega
            · have h3 := h10 b hb
              refine ⟨?_, h3⟩
              rcases h9 with h9 | h9
              · rw [h9] at hb
                exact (HF.out b (HO.out.in_ b hb)).1
              · first | rw [h9, ha] at hb | rw [h9] at hb
                injection hb with hb
                have := HB.out.size
                omega)
          have H7 := Lib.hid h7'
          have H8 := Lib.hid hbel
          clear h7 h7' h8 h9 h10 hbel
          go_wp2_with fail
          go_ret
          exact ⟨_, rfl, H7.out, H8.out⟩
    · have e1 : decide ((400 : Int) < (xs.length : Int)) = true := by simp; omega
      have HE : Hid (shB xs ss = []) := Lib.hid (shB_no (by omega))
      go_enter Try.func23, Try.ntmps23
      go_wp2_with fail
      refine HC.out.mono ?_
      rintro e w1 ⟨rfl, hw⟩
      subst hw
      go_wp2_with fail
      go_ret
      exact ⟨_, rfl, by rw [HE.out]; exact HO.out, HB1.out⟩
  · rw [inR_no (x := (ss.length : Int) + 1) (by omega)] at HC
    have HE : Hid (shB xs ss = []) := Lib.hid (shB_no (by omega))
    clear hin
    go_enter Try.func23, Try.ntmps23
    go_wp2_with fail
    refine HC.out.mono ?_
    rintro e w1 ⟨rfl, hw⟩
    subst hw
    go_wp2_with fail
    go_ret
    exact ⟨_, rfl, by rw [HE.out]; exact HO.out, HB1.out⟩

end Go.Proofs.Ytlogljbbegklbaa
