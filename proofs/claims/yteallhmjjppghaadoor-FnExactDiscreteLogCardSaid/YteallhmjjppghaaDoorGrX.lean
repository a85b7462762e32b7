/- Chapter 15's contract in the words of the exact laws: DiscreteLog. Conditions: the package variable impl.unit as the rows list it. -/
import Derived.Test.YteallhmjjppghaaDoorGr5
namespace Go.Proofs.YteallhmjjppghaaDoor
open Go Go.RowKit
set_option linter.unusedVariables false
attribute [local irreducible] kh kid pwm tcm pw chl

section
variable {w : World}
theorem spec_dl_t {g x : Int} (hg : (Lit.int .i64 g).wf = true) (hx : (Lit.int .i64 x).wf = true) : Calls Tryd.prog 16 #[.int .i64 g, .int .i64 x] w fun e w' => e = .returned (.int .i64 (dlog g x)) ∧ Below w.heap.size w w' := (spec_dl hg hx).mono (by rintro e w1 ⟨he, rfl⟩; exact ⟨he, Below.refl _ _⟩)
theorem impl_dl_t {g x : Int} (hg : (Lit.int .i64 g).wf = true) (hx : (Lit.int .i64 x).wf = true) (hL : GV w) : Calls Tryd.prog 9 #[.int .i64 g, .int .i64 x] w fun e w' => e = .returned (.int .i64 (dlog g x)) ∧ Below w.heap.size w w' := impl_dl hg hx hL
end

end Go.Proofs.YteallhmjjppghaaDoor
