/- Blind tokens: keys of issuers, requests of the document, replies; what serial numbers and exponents may be. No conditions but numbers that a machine holds. Blind tokens: tokens finished as the document says; tokens checked. No conditions but numbers that a machine holds. -/
import Derived.Test.YtlhpjfhglkngfaaDoorBcP
import Derived.Test.YtlhpjfhglkngfaaDoorBcG
import Derived.Test.YtlhpjfhglkngfaaDoorCl1
import Derived.Test.YtlhpjfhglkngfaaDoorMb1
import Derived.Test.YtlhpjfhglkngfaaDoorQuietC
import Derived.Test.YtlhpjfhglkngfaaDoorHeldL
import Derived.BigQuiet
import Derived.StillTailTactics

/-! Tk1 -/
namespace Go.Proofs.YtlhpjfhglkngfaaDoor
open Go Go.RowKit
set_option linter.unusedVariables false
attribute [local irreducible] kh kid pwm tcm pw chl

/-- impl.isHiding. -/
theorem isH_any {w : World} {n : Int} (hn : (Lit.int .i64 n).wf = true) :
    Calls Tryd.prog 25 #[.int .i64 n] w fun e w' => e = .returned (.bool (nz n)) ∧ w' = w := by
  obtain ⟨m, hm⟩ : ∃ m, m = n % 1019 := ⟨_, rfl⟩
  obtain ⟨q, hq⟩ : ∃ q, q = nz n := ⟨_, rfl⟩
  have e1 : (m != 0) = q := by rw [hq, hm]; rfl
  have HM := Lib.hid hm
  rw [← hq]
  clear hq hm
  go_enter Tryd.func25, Tryd.ntmps25
  go_wp2_with fail
  refine (fe_any hn).mono ?_
  rw [← HM.out]
  rintro e w1 ⟨rfl, hw⟩
  subst hw
  go_wp2_with fail
  go_ret
  exact ⟨rfl, rfl⟩

/-- A number that a request holds. -/
theorem req_no {n b : Int} (h : blok n b = false) : (Ending.returned (.tuple #[.agg #[.int .i64 0], .bool false]) : Ending) = .returned (.tuple #[.agg #[.int .i64 (blE n b)], .bool (blok n b)]) := by rw [blE_no h, h]
theorem req_yes {n b : Int} (h : blok n b = true) : (Ending.returned (.tuple #[.agg #[.int .i64 (pwG (hs n) b)], .bool true]) : Ending) = .returned (.tuple #[.agg #[.int .i64 (blE n b)], .bool (blok n b)]) := by rw [blE_yes h, h]
theorem hs_wf (n : Int) : (Lit.int .i64 (hs n)).wf = true := by have := el_bound (hs_el n); exact small_wf (by omega) (by omega)

/-- What a reply holds. -/
theorem repT_no {s x : Int} (t : Int) (h : sgok s x = false) : (Ending.returned (.tuple #[.agg #[.int .i64 0, .int .i64 0, .int .i64 0], .bool false]) : Ending) = .returned (.tuple #[.agg #[.int .i64 (sgE s x), .int .i64 (sgC s x t), .int .i64 (sgR s x t)], .bool (sgok s x)]) := by
  obtain ⟨h1, h2, h3⟩ := sg_no t h
  rw [h1, h2, h3, h]
theorem repT_yes {s x : Int} (t : Int) (h : sgok s x = true) : (Ending.returned (.tuple #[.agg #[.int .i64 (pwG x s), .int .i64 (prC 4 x s t), .int .i64 (prR 4 x s t)], .bool true]) : Ending) = .returned (.tuple #[.agg #[.int .i64 (sgE s x), .int .i64 (sgC s x t), .int .i64 (sgR s x t)], .bool (sgok s x)]) := by
  obtain ⟨h1, h2, h3⟩ := sg_yes t h
  rw [h1, h2, h3, h]

end Go.Proofs.YtlhpjfhglkngfaaDoor


/-! Tk2 -/
namespace Go.Proofs.YtlhpjfhglkngfaaDoor
open Go Go.RowKit
set_option linter.unusedVariables false
set_option maxRecDepth 20000
attribute [local irreducible] kh kid pwm tcm pw chl

theorem tok_no {n b k e c r : Int} (h : fnok n b k e c r = false) : (Ending.returned (.tuple #[.agg #[.int .i64 0, .int .i64 0], .bool false]) : Ending) = .returned (.tuple #[.agg #[.int .i64 (fnS n b k e c r), .int .i64 (fnV n b k e c r)], .bool (fnok n b k e c r)]) := by
  obtain ⟨h1, h2⟩ := fn_no h
  rw [h1, h2, h]
theorem tok_yes {n b k e c r : Int} (h : fnok n b k e c r = true) : (Ending.returned (.tuple #[.agg #[.int .i64 n, .int .i64 (pwG e (invE b))], .bool true]) : Ending) = .returned (.tuple #[.agg #[.int .i64 (fnS n b k e c r), .int .i64 (fnV n b k e c r)], .bool (fnok n b k e c r)]) := by
  obtain ⟨h1, h2⟩ := fn_yes h
  rw [h1, h2, h]
theorem blE_wf (n b : Int) : (Lit.int .i64 (blE n b)).wf = true := by have := blE_bound n b; exact small_wf (by omega) (by omega)
theorem invE_wf (n : Int) : (Lit.int .i64 (invE n)).wf = true := by
  by_cases h : n % 1019 = 0
  · rw [invE_zero h]; decide
  · obtain ⟨m, h1, h2, h3, _⟩ := invE_ok h
    rw [h3]; exact small_wf (by omega) (by omega)

end Go.Proofs.YtlhpjfhglkngfaaDoor
