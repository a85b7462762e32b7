/- RandomSelection, the program's and the document's: what each gives. No conditions. -/
import Derived.Test.YtaekjnacigicoaaSel3
namespace Go.Proofs.Ytaekjnacigicoaa
open Go Go.RowKit
set_option linter.unusedVariables false

/-- Element i of a random selection. -/
def rsb (seed : Int) (i : Nat) : Int := kh seed [(i : Int), 41] * kh seed [(i : Int), 41] % 2147483647 / 512 % 2
theorem rsb_bit (seed : Int) (i : Nat) : 0 ≤ rsb seed i ∧ rsb seed i ≤ 1 := by unfold rsb; omega
/-- RandomSelection's answer. -/
def rsl (seed n : Int) : List Int := if 0 ≤ n ∧ n ≤ 64 then (List.range n.toNat).map (rsb seed) else []
theorem rsl_len (seed n : Int) : (rsl seed n).length ≤ 64 := by
  unfold rsl
  split
  · simp; omega
  · simp

theorem sq_bound {q : Int} (h0 : 0 ≤ q) (h1 : q ≤ 2147483646) : 0 ≤ q * q ∧ q * q ≤ 4611686009837453316 := by
  refine ⟨Int.mul_nonneg h0 h0, ?_⟩
  have := Int.mul_le_mul h1 h1 h0 (by omega)
  omega

end Go.Proofs.Ytaekjnacigicoaa
