/- CombineAnswers, the program's and the document's: what each gives. No conditions but a size that a machine holds. -/
import Derived.Test.YtigeghmkkppldaaQuN
import Derived.Test.YtigeghmkkppldaaBbD
import Derived.Test.YtigeghmkkppldaaSh1
namespace Go.Proofs.Ytigeghmkkppldaa
open Go Go.RowKit
set_option linter.unusedVariables false
attribute [local irreducible] kh

set_option maxHeartbeats 1000000 in
/-- impl.CombineAnswers. -/
theorem impl_ca {lim : Nat} {w : World} {v : Value} {zss : List (List Int)} (h : Rd2 lim .u8 w v zss) (hlim : lim ≤ w.heap.size) (hn : tot zss ≤ 1099511627776) :
    Calls Try.prog 17 #[v] w fun e w' => ∃ v', e = .returned (.tuple #[v', .bool (caK zss)]) ∧ Own 5 .u8 w.heap.size w' v' (ca zss) ∧ Below w.heap.size w w' := by
  have HZ := Lib.hid h
  have HN := Lib.hid hn
  have HK := Lib.hid (ca_join zss)
  have HYes := Lib.hid (ca_yes (l := zss))
  have HNo := Lib.hid (ca_no (l := zss))
  have HJ := Lib.hid (jsh_yes (zss := zss))
  obtain ⟨q, hq⟩ : ∃ q, q = caK zss := ⟨_, rfl⟩
  rw [← hq] at HK HYes HNo ⊢
  obtain ⟨p, hp⟩ : ∃ p, p = okS zss := ⟨_, rfl⟩
  have Hp := Lib.hid hp
  rw [← hp] at HK HJ
  clear h hn hq hp
  go_enter Try.func17, Try.ntmps17
  go_wp2_with fail
  refine (impl_js HZ.out hlim HN.out).mono ?_
  rintro e w1 ⟨v1, he, h1, hb⟩
  rw [← Hp.out] at he
  obtain ⟨a1, cap1, hv1, _⟩ := h1.open
  obtain ⟨L, hL⟩ : ∃ L, L = (jsh zss).length := ⟨_, rfl⟩
  rw [← hL] at hv1 HK
  subst hv1
  subst he
  have H1 := Lib.hid h1
  have HB := Lib.hid hb
  clear h1 hb hL
  cases p
  · have HQ : Hid (q = false) := Lib.hid (by rw [HK.out]; rfl)
    have HE := Lib.hid (HNo.out HQ.out)
    go_wp2_with fail
    go_ret2
    rw [HQ.out]
    exact ⟨_, rfl, by rw [HE.out]; exact Own.lit _ _ HB.out.size, HB.out.alloc HB.out.size _⟩
  · have HJ' := Lib.hid (HJ.out rfl)
    by_cases h24 : L = 24
    · have HQ : Hid (q = true) := Lib.hid (by rw [HK.out, h24]; rfl)
      have HE := Lib.hid (HYes.out HQ.out)
      subst h24
      go_wp2_with fail
      refine cell_any.mono ?_
      rintro e w2 ⟨rfl, hw⟩
      subst hw
      go_wp2_with fail
      go_ret2
      rw [HQ.out]
      exact ⟨_, rfl, by rw [HE.out, ← HJ'.out]; exact H1.out, HB.out⟩
    · have h24' : ((L : Int) == 24) = false := beq_eq_false_iff_ne.2 (by omega)
      have h24n : (L == 24) = false := beq_eq_false_iff_ne.2 h24
      have HQ : Hid (q = false) := Lib.hid (by rw [HK.out, h24n]; rfl)
      have HE := Lib.hid (HNo.out HQ.out)
      clear h24 h24n
      go_wp2_with fail
      refine cell_any.mono ?_
      rw [h24']
      rintro e w2 ⟨rfl, hw⟩
      subst hw
      go_wp2_with fail
      go_ret2
      rw [HQ.out]
      exact ⟨_, rfl, by rw [HE.out]; exact Own.lit _ _ HB.out.size, HB.out.alloc HB.out.size _⟩

set_option maxHeartbeats 1000000 in
/-- spec.CombineAnswers. -/
theorem spec_ca {lim : Nat} {w : World} {v : Value} {zss : List (List Int)} (h : Rd2 lim .u8 w v zss) (hlim : lim ≤ w.heap.size) (hn : tot zss ≤ 1099511627776) :
    Calls Try.prog 45 #[v] w fun e w' => ∃ v', e = .returned (.tuple #[v', .bool (caK zss)]) ∧ Own 5 .u8 w.heap.size w' v' (ca zss) ∧ Below w.heap.size w w' := by
  have HZ := Lib.hid h
  have HN := Lib.hid hn
  obtain ⟨a, cap, rfl, h1, h2, hc⟩ := h.open
  have Hc := Lib.hid hc
  have hl : zss.length ≤ 1099511627776 := by unfold tot at hn; omega
  have HYes := Lib.hid (ca_yes (l := zss))
  have HNo := Lib.hid (ca_no (l := zss))
  obtain ⟨q, hq⟩ : ∃ q, q = caK zss := ⟨_, rfl⟩
  have Hq := Lib.hid hq
  rw [← hq] at HYes HNo ⊢
  unfold maxLen at h2
  have HOl : Hid (Own 5 .u8 w.heap.size (w.alloc (.cells #[] 5)) (.slice (some ⟨w.heap.size, 0, none⟩) 0 0) []) := Lib.hid (Own.lit _ _ (Nat.le_refl _))
  have HBl := Lib.hid ((Below.refl w.heap.size w).alloc (Nat.le_refl _) (.cells #[] 5))
  clear h hn hq hc
  go_enter Try.func45, Try.ntmps45
  go_wp2_with fail
  go_loopw [4] (fun i wr => ∃ j : Nat, i = .int .i64 j ∧ j ≤ zss.length ∧ (∀ i, i < j → (zss.getD i []).length = 24) ∧ wr = w) (fun i _ => zss.length - (intOf i).toNat)
  case atStart => exact ⟨0, rfl, Nat.zero_le _, fun i hi => by omega, rfl⟩
  case round =>
    obtain ⟨j, rfl, hj, hs, rfl⟩ := hrel
    have HS := Lib.hid hs
    clear hs
    by_cases hlt : j < zss.length
    · have e1 : decide ((j : Int) < (zss.length : Int)) = true := by simp; omega
      obtain ⟨b, o, rfl, hbl, hcell⟩ := Hc.out (by omega)
      obtain ⟨zs, hzs⟩ : ∃ zs, zss[j]? = some zs := ⟨_, List.getElem?_eq_getElem hlt⟩
      obtain ⟨u, c1, hr⟩ := hcell _ (Below.refl _ _) j zs hzs
      obtain ⟨a1, k1, rfl, _⟩ := hr.open
      have hlz := hr.len
      unfold maxLen at hlz
      have HG : Hid ((zss.getD j []).length = zs.length) := Lib.hid (by rw [getD_of hzs])
      obtain ⟨L, hL⟩ : ∃ L, L = zs.length := ⟨_, rfl⟩
      rw [← hL] at c1 HG hlz
      clear hcell hr hzs hL
      by_cases h24 : L = 24
      · subst h24
        go_wp2
        go_roundw
        case rel =>
          refine ⟨j + 1, by simp, hlt, fun i hi => ?_, by first | rfl | trivial⟩
          by_cases hij : i = j
          · subst hij; exact HG.out
          · exact HS.out i (by omega)
        case measure => simp [intOf]; omega
      · have e2 : ((L : Int) != 24) = true := by simp; omega
        have HQ : Hid (q = false) := Lib.hid (by
          rw [Hq.out]; unfold caK
          rw [vrows_no hlt (by rw [HG.out]; exact h24), Bool.and_false])
        have HE := Lib.hid (HNo.out HQ.out)
        clear h24
        go_wp2_with fail
        go_ret2
        rw [HQ.out]
        exact ⟨_, rfl, by rw [HE.out]; exact HOl.out, HBl.out⟩
    · have e1 : decide ((j : Int) < (zss.length : Int)) = false := by simp; omega
      have HK : Hid (inR (zss.length : Int) 2 4 = q) := Lib.hid (by
        rw [Hq.out]; unfold caK
        rw [vrows_iff.2 (fun i hi => HS.out i (by omega)), Bool.and_true])
      have HWl : Hid ((Lit.int .i64 (zss.length : Int)).wf = true) := Lib.hid (wf_i64_of (by omega) (by omega))
      go_wp2_with fail
      refine (count_any HWl.out).mono ?_
      rw [HK.out]
      rintro e w1 ⟨he, hw⟩
      subst hw
      subst he
      cases q
      · have HE := Lib.hid (HNo.out rfl)
        go_wp2_with fail
        go_ret2
        exact ⟨_, rfl, by rw [HE.out]; exact HOl.out, HBl.out⟩
      · have HE := Lib.hid (HYes.out rfl)
        go_wp2_with fail
        refine (spec_xa HZ.out hlim HN.out).mono ?_
        rintro e w2 ⟨v2, rfl, h3, hb⟩
        rw [← HE.out] at h3
        have H3 := Lib.hid h3
        have HB := Lib.hid hb
        clear h3 hb
        go_wp2_with fail
        go_ret2
        exact ⟨_, rfl, H3.out, HB.out⟩

end Go.Proofs.Ytigeghmkkppldaa
