/- What chapter 15's draws give: elements and others, exponents, whatever is handed to VerifyEqual. No conditions but sizes that a machine holds. -/
import Derived.Test.YtdccljmffmlkbaaDoorDrawB
import Derived.Test.YtdccljmffmlkbaaDoorBaD
import Derived.Test.YtdccljmffmlkbaaDoorBcG
namespace Go.Proofs.YtdccljmffmlkbaaDoor
open Go Go.RowKit
set_option linter.unusedVariables false
attribute [local irreducible] kh kid pwm tcm pw chl

/-- spec.l15Any. -/
theorem any15 (B b : Nat) (w : World) (h : Cur B b w) :
    Calls Tryd.prog 53 #[.pointer (some ⟨b, 0, none⟩)] w (StepOut B b (-1) 2039 w) := by
  have H := Lib.hid h
  clear h
  go_enter Tryd.func53, Tryd.ntmps53
  go_wp2_with fail
  refine (once_any B b _ _ H.out (by omega) (by omega)).mono ?_
  rintro e w1 ⟨t, rfl, hc, hg⟩
  have HC := Lib.hid hc
  have HG := Lib.hid hg
  clear hc hg
  cases t
  · go_wp2_with (first
      | (go_at_call 88
         go_in))
    refine (below_any B b _ _ HC.out (by omega) (by omega)).mono ?_
    rintro e w3 ⟨y, y0, y1, rfl, hc3, hg3⟩
    obtain ⟨n, rfl⟩ : ∃ n : Nat, y = (n : Int) := ⟨y.toNat, by omega⟩
    have HC3 := Lib.hid hc3
    have HG3 := Lib.hid (grown_trans HG.out hg3)
    clear hc3 hg3
    go_wp2_with fail
    refine (spec_pm (n := n) rfl (by omega) (by omega) (by omega)).mono ?_
    have hb := pwm_bound (m := 2039) (g := 4) (n := n) (by omega)
    obtain ⟨x, hx⟩ : ∃ x, x = pwm 2039 4 n := ⟨_, rfl⟩
    rw [← hx] at hb ⊢
    rintro e w4 ⟨rfl, hw⟩
    obtain rfl := hw.symm
    clear hx
    go_wp2_with fail
    go_ret
    exact ⟨x, by omega, by omega, rfl, HC3.out, HG3.out⟩
  · go_wp2_with fail
    refine (int_alloc B b (-1) 2039 [-1, 0, 1, 2, 2038, 2039] _ 6 _ HC.out rfl (by omega) (by omega) (by decide)).mono ?_
    rintro e w2 ⟨y, y0, y1, rfl, hc2, hg2⟩
    go_wp2_with fail
    go_ret
    exact ⟨y, y0, y1, rfl, hc2, grown_trans HG.out hg2⟩

/-- spec.l15Number. -/
theorem num15 (B b : Nat) (w : World) (h : Cur B b w) :
    Calls Tryd.prog 54 #[.pointer (some ⟨b, 0, none⟩)] w (StepOut B b (-1) 5000 w) := by
  have H := Lib.hid h
  clear h
  go_enter Tryd.func54, Tryd.ntmps54
  go_wp2_with fail
  refine (below_any B b _ _ H.out (by omega) (by omega)).mono ?_
  rintro e w1 ⟨x, x0, x1, rfl, hc, hg⟩
  have HC := Lib.hid hc
  have HG := Lib.hid hg
  clear hc hg
  go_wp2_with fail
  refine (below_any B b _ _ HC.out (by omega) (by omega)).mono ?_
  rintro e w2 ⟨y, y0, y1, rfl, hc, hg⟩
  replace HC := Lib.hid hc
  replace HG := Lib.hid (grown_trans HG.out hg)
  clear hc hg
  go_wp2_with fail
  refine (int_alloc B b (-1) 5000 [x, y, -1, 0, 1, 1018, 1019, 5000] _ 8 _ HC.out rfl (by omega) (by omega) (by
    intro z hz
    simp only [List.mem_cons, List.not_mem_nil, or_false] at hz
    omega)).mono ?_
  rintro e w3 ⟨z, z0, z1, rfl, hc2, hg2⟩
  go_wp2_with fail
  go_ret
  exact ⟨z, z0, z1, rfl, hc2, grown_trans HG.out hg2⟩

/-- spec.DrawPowGroup. -/
theorem draw_pg (B : Nat) (a : Option Addr) (len cap : Nat) (zs : List Int) (w : World) (hB : B ≤ w.heap.size) (hrow : RowB B .u8 w a len cap zs) (hl : len ≤ maxLen) :
    Calls Tryd.prog 18 #[.slice a len cap] w fun e w' => ∃ g n : Int, e = .returned (.tuple #[.int .i64 g, .int .i64 n]) ∧ (-1 ≤ g ∧ g ≤ 2039) ∧ (-1 ≤ n ∧ n ≤ 5000) ∧ Below w.heap.size w w' := by
  have HR := Lib.hid hrow
  clear hrow
  go_enter Tryd.func18, Tryd.ntmps18
  go_wp2_with fail
  refine (new_any B a len cap zs _ hB HR.out hl).mono ?_
  rintro e w1 ⟨rfl, hc, hg⟩
  have HC := Lib.hid hc
  have HG := Lib.hid (grown_none (r := some w.heap.size) hg)
  clear hc hg HR
  go_wp2_with fail
  refine (any15 B w.heap.size _ HC.out).mono ?_
  rintro e w2 ⟨g, g0, g1, rfl, hc, hg⟩
  replace HC := Lib.hid hc
  replace HG := Lib.hid (grown_trans HG.out hg)
  clear hc hg
  go_wp2_with fail
  refine (num15 B w.heap.size _ HC.out).mono ?_
  rintro e w3 ⟨n, n0, n1, rfl, hc, hg⟩
  have HB := Lib.hid (below_of_grown (B := w.heap.size) (grown_trans HG.out hg) (Nat.le_refl _) (Nat.le_refl _))
  clear hc hg
  go_wp2_with fail
  go_ret2
  exact ⟨g, n, rfl, ⟨g0, g1⟩, ⟨n0, n1⟩, HB.out⟩

end Go.Proofs.YtdccljmffmlkbaaDoor
