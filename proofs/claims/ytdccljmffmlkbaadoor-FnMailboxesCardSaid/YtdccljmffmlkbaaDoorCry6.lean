/- The stream cipher of the document: what each function gives. No conditions but a length that a machine holds. -/
import Derived.Test.YtdccljmffmlkbaaDoorBcC
import Derived.Test.YtdccljmffmlkbaaDoorBa2
import Derived.Deep.RegionHeld3
namespace Go.Proofs.YtdccljmffmlkbaaDoor
open Go Go.RowKit
set_option linter.unusedVariables false

/-- The bytes up to j, a stream's bytes added. -/
def addsTo (f : Nat → Int) (zs : List Int) (j : Nat) : List Int := (List.range j).map fun i => (zs.getD i 0 + f i) % 256
theorem i64w {x : Int} (h0 : -9223372036854775808 ≤ x) (h1 : x ≤ 9223372036854775807) : IntKind.i64.wrap x = x := by rw [IntKind.wrap_i64]; omega
theorem addsTo_full (f : Nat → Int) (zs : List Int) : addsTo f zs zs.length = adds f zs := rfl
theorem addsTo_succ (f : Nat → Int) (zs : List Int) (j : Nat) : addsTo f zs (j + 1) = addsTo f zs j ++ [(zs.getD j 0 + f j) % 256] := by
  unfold addsTo; rw [List.range_succ, List.map_append]; rfl
theorem addsTo_len (f : Nat → Int) (zs : List Int) (j : Nat) : (addsTo f zs j).length = j := by simp [addsTo]

end Go.Proofs.YtdccljmffmlkbaaDoor
