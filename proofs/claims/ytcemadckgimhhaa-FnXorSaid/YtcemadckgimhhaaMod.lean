/- Mod, the program's and the document's. No conditions but numbers that a machine holds. -/
import Derived.Test.YtcemadckgimhhaaRows
import Derived.Test.YtcemadckgimhhaaRd
import Derived.WalkKit
import Derived.Handy
import Derived.Outline
import Derived.WalkSpells
import Derived.Lib.Hide
namespace Go.Proofs.Ytcemadckgimhhaa
open Go Go.RowKit
set_option linter.unusedVariables false

def modV (a b : Int) : Int := if 1 ≤ b ∧ b ≤ 1000000000000 then a % b else 0

theorem rint {a b : Int} (h : a = b) : Ending.returned (.int .i64 a) = Ending.returned (.int .i64 b) := by rw [h]

theorem tmod_emod (p q : Int) (hq : 1 ≤ q) (hp : p < 0) : -q < p.tmod q ∧ p.tmod q ≤ 0 ∧ (p.tmod q < 0 → p.tmod q + q = p % q) ∧ (¬ p.tmod q < 0 → p.tmod q = p % q) := by
  have e : p.tmod q = -((-p) % q) := by
    have h := Int.neg_tmod (a := -p) (b := q)
    rw [Int.neg_neg] at h
    rw [h, Int.tmod_eq_emod_of_nonneg (by omega)]
  have b1 := Int.emod_nonneg (-p) (b := q) (by omega)
  have b2 := Int.emod_lt_of_pos (-p) (b := q) (by omega)
  have hd := Int.mul_tdiv_add_tmod p q
  have hm : p % q = p.tmod q % q := by
    conv => lhs; rw [← hd]
    rw [Int.add_comm, Int.add_mul_emod_self_left]
  refine ⟨by omega, by omega, fun hn => ?_, fun hn => ?_⟩
  · rw [hm, ← Int.add_emod_right, Int.emod_eq_of_lt (by omega) (by omega)]
  · rw [hm, Int.emod_eq_of_lt (by omega) (by omega)]

end Go.Proofs.Ytcemadckgimhhaa
