/- What chapter 15's draws give: elements and others, exponents, whatever is handed to VerifyEqual. No conditions but sizes that a machine holds. -/
import Derived.Test.YtdlbpeippmibcaaDrawB
import Derived.Test.YtdlbpeippmibcaaBaD
import Derived.Test.YtdlbpeippmibcaaBcG
namespace Go.Proofs.Ytdlbpeippmibcaa
open Go Go.RowKit
set_option linter.unusedVariables false
attribute [local irreducible] kh kid pwm tcm pw chl

/-- spec.l15Any. -/
theorem any15 (B b : Nat) (w : World) (h : Cur B b w) :
    Calls Try.prog 48 #[.pointer (some ⟨b, 0, none⟩)] w (StepOut B b (-1) 2039 w) := by
  have H := Lib.hid h
  clear h
  go_enter Try.func48, Try.ntmps48
  go_wp2_with fail
  refine (once_any B b _ _ H.out (by omega) (by omega)).mono ?_
  rintro e w1 ⟨t, rfl, hc, hg⟩
  have HC := Lib.hid hc
  have HG := Lib.hid hg
  clear hc hg
  cases t
  · go_wp2_with (first
      | (go_at_call 74
         go_in))
    refine (below_any B b _ _ HC.out (by omega) (by omega)).mono ?_
    rintro e w3 ⟨y, y0, y1, rfl, hc3, hg3⟩
    obtain ⟨n, rfl⟩ : ∃ n : Nat, y = (n : Int) := ⟨y.toNat, by omega⟩
    have HC3 := Lib.hid hc3
    have HG3 := Lib.hid (grown_trans HG.out hg3)
    clear hc3 hg3
    go_wp2_with fail
    refine (spec_pm (n := n) rfl (by omega) (by omega) (by omega)).mono ?_
    have hb := pwm_bound (m := 2039) (g := 4) (n := n) (by omega)
    obtain ⟨x, hx⟩ : ∃ x, x = pwm 2039 4 n := ⟨_, rfl⟩
    rw [← hx] at hb ⊢
    rintro e w4 ⟨rfl, hw⟩
    obtain rfl := hw.symm
    clear hx
    go_wp2_with fail
    go_ret
    exact ⟨x, by omega, by omega, rfl, HC3.out, HG3.out⟩
  · go_wp2_with fail
    refine (int_alloc B b (-1) 2039 [-1, 0, 1, 2, 2038, 2039] _ 6 _ HC.out rfl (by omega) (by omega) (by decide)).mono ?_
    rintro e w2 ⟨y, y0, y1, rfl, hc2, hg2⟩
    go_wp2_with fail
    go_ret
    exact ⟨y, y0, y1, rfl, hc2, grown_trans HG.out hg2⟩

end Go.Proofs.Ytdlbpeippmibcaa
