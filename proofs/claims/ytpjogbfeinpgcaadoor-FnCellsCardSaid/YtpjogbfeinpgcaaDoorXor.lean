/- XorBytes, the program's and the document's: what each gives. No conditions but a length that a machine holds. -/
import Derived.Test.YtpjogbfeinpgcaaDoorRows
import Derived.Test.YtpjogbfeinpgcaaDoorBa1
import Derived.Test.YtpjogbfeinpgcaaDoorBa3
import Derived.Test.YtpjogbfeinpgcaaDoorEnc
import Derived.Test.YtpjogbfeinpgcaaDoorBa8
import Derived.Test.YtpjogbfeinpgcaaDoorBa7
import Derived.Test.YtpjogbfeinpgcaaDoorBaM
import Derived.WalkKit
import Derived.Handy
import Derived.Outline
import Derived.WalkSpells
import Derived.Deep.QuietTactic
import Derived.BigQuiet
import Derived.Lib.Hide
namespace Go.Proofs.YtpjogbfeinpgcaaDoor
open Go Go.RowKit
set_option linter.unusedVariables false

/-- The smaller one. -/
def mn (a b : Int) : Int := if b < a then b else a
theorem mn_lt {a b : Int} (h : b < a) : mn a b = b := if_pos h
theorem mn_ge {a b : Int} (h : ¬ b < a) : mn a b = a := if_neg h
theorem mn_nat (a b : Nat) : mn (a : Int) (b : Int) = ((min a b : Nat) : Int) := by unfold mn; split <;> omega

theorem impl_mn (a b : Int) (w : World) (ha : (Lit.int .i64 a).wf = true) (hb : (Lit.int .i64 b).wf = true) :
    Calls Tryd.prog 38 #[.int .i64 a, .int .i64 b] w fun e w' => e = .returned (.int .i64 (mn a b)) ∧ Below w.heap.size w w' := by
  by_cases h1 : b < a
  · have hv := Lib.hid (mn_lt h1)
    go_enter Tryd.func38, Tryd.ntmps38
    go_wp2
    go_rounds 2
    all_goals go_ret
    all_goals exact ⟨rint hv.out.symm, (Below.refl w.heap.size w).alloc (Nat.le_refl _) _⟩
  · have hv := Lib.hid (mn_ge h1)
    go_enter Tryd.func38, Tryd.ntmps38
    go_wp2
    go_rounds 2
    all_goals go_ret
    all_goals exact ⟨rint hv.out.symm, (Below.refl w.heap.size w).alloc (Nat.le_refl _) _⟩

end Go.Proofs.YtpjogbfeinpgcaaDoor
