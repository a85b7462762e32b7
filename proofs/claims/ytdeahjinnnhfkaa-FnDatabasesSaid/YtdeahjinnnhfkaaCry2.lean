/- The keyed hash, the program's and the document's: what each gives. No conditions but a length that a machine holds. -/
import Derived.Test.YtdeahjinnnhfkaaCry1
namespace Go.Proofs.Ytdeahjinnnhfkaa
open Go Go.RowKit
set_option linter.unusedVariables false

end Go.Proofs.Ytdeahjinnnhfkaa
