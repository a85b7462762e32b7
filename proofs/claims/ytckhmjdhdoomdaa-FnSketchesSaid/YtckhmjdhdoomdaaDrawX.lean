/- Chapter 4's draws. No conditions. -/
import Derived.Test.YtckhmjdhdoomdaaDrawB
import Derived.Test.YtckhmjdhdoomdaaBa6
namespace Go.Proofs.Ytckhmjdhdoomdaa
open Go Go.RowKit
set_option linter.unusedVariables false

theorem Own2.cur {t e : TypeId} {k : IntKind} {l h b : Nat} {w w' : World} {v : Value} {zss : List (List Int)} (ho : Own2 t e k (ival l h) w v zss) (hb : b < l) (hg : w.grownBy w' (some b)) : Own2 t e k (ival l h) w' v zss :=
  ho.keptF (KeptF.of_grown (F := fun x => x = b) hg (fun x hx => by injection hx with hx; exact hx.symm)) (fun x hx hxb => by unfold ival at hx; omega)

end Go.Proofs.Ytckhmjdhdoomdaa
