/- Trees of seeds: descend, LeafSeed, the program's and the document's. No conditions but numbers that a machine holds. -/
import Derived.Test.YtjhmemdbngkelaaTre1
namespace Go.Proofs.Ytjhmemdbngkelaa
open Go Go.RowKit
set_option linter.unusedVariables false
attribute [local irreducible] kh

theorem nat_wf {n : Nat} (h : n ≤ 1000) : (Lit.int .i64 (n : Int)).wf = true := wf_i64_of (by omega) (by omega)

end Go.Proofs.Ytjhmemdbngkelaa
