/- Chapter 2's appending functions, the program's and the document's: what each gives. No conditions but a length that a machine holds. -/
import Derived.Test.YtlbijjifeaimjaaRows
import Derived.Test.YtlbijjifeaimjaaBa1
import Derived.Test.YtlbijjifeaimjaaBa7
import Derived.Test.YtlbijjifeaimjaaBa3
import Derived.WalkKit
import Derived.Handy
import Derived.Outline
import Derived.WalkSpells
import Derived.Deep.QuietTactic
import Derived.BigQuiet
import Derived.Lib.Hide
namespace Go.Proofs.Ytlbijjifeaimjaa
open Go Go.RowKit
set_option linter.unusedVariables false

/-- Whether x lies between a and b. -/
def inR (x a b : Int) : Bool := decide (a ≤ x) && decide (x ≤ b)
theorem inR_yes {x a b : Int} (h : a ≤ x ∧ x ≤ b) : inR x a b = true := by simp [inR, h.1, h.2]
theorem inR_no {x a b : Int} (h : ¬ (a ≤ x ∧ x ≤ b)) : inR x a b = false := by
  rw [Bool.eq_false_iff]
  intro h'
  simp [inR] at h'
  exact h h'

theorem impl_in (x a b : Int) (w : World) (hx : (Lit.int .i64 x).wf = true) : Calls Try.prog 16 #[.int .i64 x, .int .i64 a, .int .i64 b] w fun e w' => e = .returned (.bool (inR x a b)) ∧ w' = w := by
  by_cases h1 : a ≤ x
  · have e1 : decide (a ≤ x) = true := by simpa using h1
    go_enter Try.func16, Try.ntmps16
    go_wp2
    go_ret
    unfold inR
    rw [e1]
    exact ⟨rfl, rfl⟩
  · have e1 : decide (a ≤ x) = false := by simpa using h1
    go_enter Try.func16, Try.ntmps16
    go_wp2
    go_ret
    unfold inR
    rw [e1]
    exact ⟨rfl, rfl⟩
theorem spec_in (x a b : Int) (w : World) (hx : (Lit.int .i64 x).wf = true) : Calls Try.prog 22 #[.int .i64 x, .int .i64 a, .int .i64 b] w fun e w' => e = .returned (.bool (inR x a b)) ∧ w' = w := by
  by_cases h1 : a ≤ x
  · have e1 : decide (a ≤ x) = true := by simpa using h1
    go_enter Try.func22, Try.ntmps22
    go_wp2
    go_ret
    unfold inR
    rw [e1]
    exact ⟨rfl, rfl⟩
  · have e1 : decide (a ≤ x) = false := by simpa using h1
    go_enter Try.func22, Try.ntmps22
    go_wp2
    go_ret
    unfold inR
    rw [e1]
    exact ⟨rfl, rfl⟩

end Go.Proofs.Ytlbijjifeaimjaa
