/- CombineAnswers, the program's and the document's: what each gives. No conditions but a size that a machine holds. -/
import Derived.Test.YtaekjnacigicoaaQuN
import Derived.Test.YtaekjnacigicoaaBbD
import Derived.Test.YtaekjnacigicoaaSh1
namespace Go.Proofs.Ytaekjnacigicoaa
open Go Go.RowKit
set_option linter.unusedVariables false
attribute [local irreducible] kh

set_option maxHeartbeats 1000000 in
/-- impl.CombineAnswers. -/
theorem impl_ca {lim : Nat} {w : World} {v : Value} {zss : List (List Int)} (h : Rd2 lim .u8 w v zss) (hlim : lim ≤ w.heap.size) (hn : tot zss ≤ 1099511627776) :
    Calls Try.prog 8 #[v] w fun e w' => ∃ v', e = .returned (.tuple #[v', .bool (caK zss)]) ∧ Own 5 .u8 w.heap.size w' v' (ca zss) ∧ Below w.heap.size w w' := by
  have HZ := Lib.hid h
  have HN := Lib.hid hn
  have HK := Lib.hid (ca_join zss)
  have HYes := Lib.hid (ca_yes (l := zss))
  have HNo := Lib.hid (ca_no (l := zss))
  have HJ := Lib.hid (jsh_yes (zss := zss))
  obtain ⟨q, hq⟩ : ∃ q, q = caK zss := ⟨_, rfl⟩
  rw [← hq] at HK HYes HNo ⊢
  obtain ⟨p, hp⟩ : ∃ p, p = okS zss := ⟨_, rfl⟩
  have Hp := Lib.hid hp
  rw [← hp] at HK HJ
  clear h hn hq hp
  go_enter Try.func8, Try.ntmps8
  go_wp2_with fail
  refine (impl_js HZ.out hlim HN.out).mono ?_
  rintro e w1 ⟨v1, he, h1, hb⟩
  rw [← Hp.out] at he
  obtain ⟨a1, cap1, hv1, _⟩ := h1.open
  obtain ⟨L, hL⟩ : ∃ L, L = (jsh zss).length := ⟨_, rfl⟩
  rw [← hL] at hv1 HK
  subst hv1
  subst he
  have H1 := Lib.hid h1
  have HB := Lib.hid hb
  clear h1 hb hL
  cases p
  · have HQ : Hid (q = false) := Lib.hid (by rw [HK.out]; rfl)
    have HE := Lib.hid (HNo.out HQ.out)
    go_wp2_with fail
    go_ret2
    rw [HQ.out]
    exact ⟨_, rfl, by rw [HE.out]; exact Own.lit _ _ HB.out.size, HB.out.alloc HB.out.size _⟩
  · have HJ' := Lib.hid (HJ.out rfl)
    by_cases h24 : L = 24
    · have HQ : Hid (q = true) := Lib.hid (by rw [HK.out, h24]; rfl)
      have HE := Lib.hid (HYes.out HQ.out)
      subst h24
      go_wp2_with fail
      refine cell_any.mono ?_
      rintro e w2 ⟨rfl, hw⟩
      subst hw
      go_wp2_with fail
      go_ret2
      rw [HQ.out]
      exact ⟨_, rfl, by rw [HE.out, ← HJ'.out]; exact H1.out, HB.out⟩
    · have h24' : ((L : Int) == 24) = false := beq_eq_false_iff_ne.2 (by omega)
      have h24n : (L == 24) = false := beq_eq_false_iff_ne.2 h24
      have HQ : Hid (q = false) := Lib.hid (by rw [HK.out, h24n]; rfl)
      have HE := Lib.hid (HNo.out HQ.out)
      clear h24 h24n
      go_wp2_with fail
      refine cell_any.mono ?_
      rw [h24']
      rintro e w2 ⟨rfl, hw⟩
      subst hw
      go_wp2_with fail
      go_ret2
      rw [HQ.out]
      exact ⟨_, rfl, by rw [HE.out]; exact Own.lit _ _ HB.out.size, HB.out.alloc HB.out.size _⟩

end Go.Proofs.Ytaekjnacigicoaa
