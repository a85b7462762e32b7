/- IsValidKey, BytesToInts and DeriveFromString, the program's and the document's: what each gives. No conditions but a length that a machine holds. -/
import Derived.Test.YtnamgnhplodhoaaBa9
import Derived.Test.YtnamgnhplodhoaaBaM
import Derived.Test.YtnamgnhplodhoaaStrB
namespace Go.Proofs.Ytnamgnhplodhoaa
open Go Go.RowKit
set_option linter.unusedVariables false

/-- The length, then the bytes. -/
def bti (zs : List Int) : List Int := (zs.length : Int) :: zs
theorem bti_len (zs : List Int) : (bti zs).length = zs.length + 1 := rfl

theorem u8_i64 {z : Int} (h : (Lit.int .u8 z).wf = true) : (Lit.int .i64 z).wf = true := by
  have := wf_u8 h
  exact wf_i64_of (by omega) (by omega)

/-- What is derived. -/
def dv (k : Int) (s : ByteArray) : Int := mx (kh k (bti (nums s))) 1
theorem dv_turn (k : Int) (s : ByteArray) : mx 1 (kh k (bti (nums s))) = dv k s := by
  unfold dv mx
  have := kh_bound k (bti (nums s))
  split <;> split <;> omega
theorem dv_bound (k : Int) (s : ByteArray) : 1 ≤ dv k s ∧ dv k s ≤ 2147483646 := by
  unfold dv mx
  have := kh_bound k (bti (nums s))
  split <;> omega

end Go.Proofs.Ytnamgnhplodhoaa
