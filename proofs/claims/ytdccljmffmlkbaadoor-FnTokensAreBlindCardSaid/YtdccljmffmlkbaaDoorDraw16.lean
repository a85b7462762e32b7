/- What chapter 16's draws give: a secret, a serial number and a blinding that may be used. No conditions but sizes that a machine holds. -/
import Derived.Test.YtdccljmffmlkbaaDoorDrawB
import Derived.Test.YtdccljmffmlkbaaDoorBaD
import Derived.Test.YtdccljmffmlkbaaDoorBcG
namespace Go.Proofs.YtdccljmffmlkbaaDoor
open Go Go.RowKit
set_option linter.unusedVariables false
attribute [local irreducible] kh kid pwm tcm pw chl

set_option maxHeartbeats 1000000 in
/-- spec.DrawIssuing. -/
theorem draw_is (B : Nat) (a : Option Addr) (len cap : Nat) (zs : List Int) (w : World) (hB : B ≤ w.heap.size) (hrow : RowB B .u8 w a len cap zs) (hl : len ≤ maxLen) :
    Calls Tryd.prog 27 #[.slice a len cap] w fun e w' => ∃ s n b : Int, e = .returned (.tuple #[.int .i64 s, .int .i64 n, .int .i64 b]) ∧ (1 ≤ s ∧ s ≤ 1018) ∧ (0 ≤ n ∧ n ≤ 4999) ∧ (1 ≤ b ∧ b ≤ 1018) ∧ Below w.heap.size w w' := by
  have HR := Lib.hid hrow
  clear hrow
  go_enter Tryd.func27, Tryd.ntmps27
  go_wp2_with fail
  refine (new_any B a len cap zs _ hB HR.out hl).mono ?_
  rintro e w1 ⟨rfl, hc, hg⟩
  have HC := Lib.hid hc
  have HG := Lib.hid (grown_none (r := some w.heap.size) hg)
  clear hc hg HR
  go_wp2_with fail
  refine (below_any B w.heap.size _ _ HC.out (by omega) (by omega)).mono ?_
  rintro e w2 ⟨x, x0, x1, rfl, hc, hg⟩
  replace HC := Lib.hid hc
  replace HG := Lib.hid (grown_trans HG.out hg)
  clear hc hg
  go_wp2_with fail
  refine (below_any B w.heap.size _ _ HC.out (by omega) (by omega)).mono ?_
  rintro e w3 ⟨y, y0, y1, rfl, hc, hg⟩
  replace HC := Lib.hid hc
  replace HG := Lib.hid (grown_trans HG.out hg)
  clear hc hg
  go_wp2_with fail
  refine (below_any B w.heap.size _ _ HC.out (by omega) (by omega)).mono ?_
  rintro e w4 ⟨z, z0, z1, rfl, hc, hg⟩
  have HB := Lib.hid (below_of_grown (B := w.heap.size) (grown_trans HG.out hg) (Nat.le_refl _) (Nat.le_refl _))
  clear hc hg
  go_wp2_with fail
  exact bodyPost_ret (v := .tuple #[.int .i64 (1 + x), .int .i64 y, .int .i64 (1 + z)]) (by simp [results, Tryd.results27, go_sem]) rfl ⟨1 + x, y, 1 + z, rfl, ⟨by omega, by omega⟩, ⟨y0, by omega⟩, ⟨by omega, by omega⟩, HB.out⟩

end Go.Proofs.YtdccljmffmlkbaaDoor
