/- Leaves of point keys: leafBelow, bitAt, EvaluatePoint, EvaluateAll. No conditions but numbers that a machine holds. -/
import Derived.Test.YtaekjnacigicoaaPk2
namespace Go.Proofs.Ytaekjnacigicoaa
open Go Go.RowKit
set_option linter.unusedVariables false
attribute [local irreducible] kh

end Go.Proofs.Ytaekjnacigicoaa
