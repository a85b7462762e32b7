/- What the laws of properties share: whether the code is too long, a byte of it. No conditions. -/
import Derived.Test.YtdeahjinnnhfkaaRows
import Derived.Test.YtdeahjinnnhfkaaRd
import Derived.WalkKit
import Derived.Handy
import Derived.Outline
import Derived.WalkSpells
import Derived.Lib.Hide
namespace Go.Proofs.Ytdeahjinnnhfkaa
open Go Go.RowKit
set_option linter.unusedVariables false

theorem big_is (a : Option Addr) (len cap : Nat) (w : World) (hl : len ≤ 9223372036854775807) :
    Calls Try.prog 13 #[.slice a len cap] w fun e w' => e = .returned (.bool (decide ((1048576 : Int) < (len : Int)))) ∧ w' = w := by
  go_enter Try.func13, Try.ntmps13
  go_wp2
  go_ret
  exact ⟨rfl, rfl⟩

/-- laws.at. -/
def atv (s : List Int) (i : Nat) : Int := if i < s.length then s.getD i 0 else ((i * 31 + s.length * 7 : Nat) : Int) % 256
theorem atv_bound {s : List Int} (h : ∀ i, i < s.length → (Lit.int .u8 (s.getD i 0)).wf = true) (i : Nat) : 0 ≤ atv s i ∧ atv s i ≤ 255 := by
  unfold atv
  split
  · exact wf_u8 (h i (by assumption))
  · omega
end Go.Proofs.Ytdeahjinnnhfkaa
