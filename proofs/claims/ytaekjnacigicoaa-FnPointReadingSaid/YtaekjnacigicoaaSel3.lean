/- XorSelections, RandomSelection, SelectXor, the program's and the document's: what each gives. No conditions but a size that a machine holds. -/
import Derived.Test.YtaekjnacigicoaaSel2
import Derived.Test.YtaekjnacigicoaaBa9
import Derived.Test.YtaekjnacigicoaaXor2
import Derived.Test.YtaekjnacigicoaaBa5
import Derived.Deep.RegionHeld3
namespace Go.Proofs.Ytaekjnacigicoaa
open Go Go.RowKit
set_option linter.unusedVariables false

/-- What selectionOf gives, of any list. -/
def soR (zs : List Int) : Nat := if isel zs (zs.length : Int) = true then zs.length else 0
def soS (zs : List Int) : Nat := if isel zs (zs.length : Int) = true then bnat zs else 0
theorem so_any {lim : Nat} {w : World} {v : Value} {zs : List Int} (h : Rd lim .i64 w v zs) (hlim : lim ≤ w.heap.size) :
    Calls Try.prog 35 #[v] w fun e w' => e = .returned (.tuple #[.agg #[.int .i64 (soR zs : Int), .int .u64 (soS zs : Int)], .bool (isel zs (zs.length : Int))]) ∧ Below w.heap.size w w' := by
  unfold soR soS
  by_cases hs : isel zs (zs.length : Int) = true
  · rw [if_pos hs, if_pos hs, hs]
    exact so_yes h hlim hs
  · have hs' : isel zs (zs.length : Int) = false := by simpa using hs
    rw [if_neg hs, if_neg hs, hs']
    exact so_no h hlim hs'

end Go.Proofs.Ytaekjnacigicoaa
