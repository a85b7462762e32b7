/- The stream cipher of the program: what each function gives. No conditions but a length that a machine holds. -/
import Derived.Test.YtdlbpeippmibcaaCry4
import Derived.Laws.EntriesVeiled
namespace Go.Proofs.Ytdlbpeippmibcaa
open Go Go.RowKit
set_option linter.unusedVariables false

/-- The byte of the key stream. -/
def ks (k : Int) (i : Nat) : Int := kh k [(i : Int)] % 256
theorem ks_bound (k : Int) (i : Nat) : 0 ≤ ks k i ∧ ks k i ≤ 255 := by unfold ks; omega
/-- Its negative. -/
def nks (k : Int) (i : Nat) : Int := (-(ks k i)) % 256
theorem nks_bound (k : Int) (i : Nat) : 0 ≤ nks k i ∧ nks k i ≤ 255 := by unfold nks; omega

/-- What is encrypted, and what is decrypted. -/
def enz (k : Int) (zs : List Int) : List Int := adds (ks k) zs
def dez (k : Int) (zs : List Int) : List Int := adds (nks k) zs

end Go.Proofs.Ytdlbpeippmibcaa
