/- Max, the program's and the document's. No conditions. -/
import Derived.Test.YtnamgnhplodhoaaRows
import Derived.Test.YtnamgnhplodhoaaRd
import Derived.Test.YtnamgnhplodhoaaMod
namespace Go.Proofs.Ytnamgnhplodhoaa
open Go Go.RowKit
set_option linter.unusedVariables false

/-- The greater one. -/
def mx (a b : Int) : Int := if a < b then b else a
theorem mx_lt {a b : Int} (h : a < b) : mx a b = b := if_pos h
theorem mx_ge {a b : Int} (h : ¬ a < b) : mx a b = a := if_neg h

end Go.Proofs.Ytnamgnhplodhoaa
