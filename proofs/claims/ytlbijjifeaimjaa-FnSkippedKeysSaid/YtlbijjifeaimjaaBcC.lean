/- The stream cipher of the program: what each function gives. No conditions but a length that a machine holds. The stream cipher of the program: what each function gives. No conditions but a length that a machine holds. -/
import Derived.Test.YtlbijjifeaimjaaBbC
import Derived.Test.YtlbijjifeaimjaaBa3
import Derived.Deep.RegionWith
import Derived.Laws.EntriesVeiled

/-! Cry4 -/
namespace Go.Proofs.Ytlbijjifeaimjaa
open Go Go.RowKit
set_option linter.unusedVariables false

theorem upt_at (f g : Nat → Int) {j n : Nat} (h : j < n) : (upt f g j n).getD j 0 = g j := by
  rw [List.getD_eq_getElem?_getD, upt_get _ _ _ _ _ h]; simp

/-- A stream's bytes are added. -/
def adds (f : Nat → Int) (zs : List Int) : List Int := (List.range zs.length).map fun i => (zs.getD i 0 + f i) % 256
theorem adds_len (f : Nat → Int) (zs : List Int) : (adds f zs).length = zs.length := by simp [adds]

theorem wrapU8 (x : Int) : IntKind.u8.wrap x = x % 256 := by
  have e1 : IntKind.u8.min = 0 := rfl
  simp [IntKind.wrap, IntKind.bits, IntKind.signed]

end Go.Proofs.Ytlbijjifeaimjaa


/-! Cry5 -/
namespace Go.Proofs.Ytlbijjifeaimjaa
open Go Go.RowKit
set_option linter.unusedVariables false

/-- The byte of the key stream. -/
def ks (k : Int) (i : Nat) : Int := kh k [(i : Int)] % 256
theorem ks_bound (k : Int) (i : Nat) : 0 ≤ ks k i ∧ ks k i ≤ 255 := by unfold ks; omega
/-- Its negative. -/
def nks (k : Int) (i : Nat) : Int := (-(ks k i)) % 256
theorem nks_bound (k : Int) (i : Nat) : 0 ≤ nks k i ∧ nks k i ≤ 255 := by unfold nks; omega

/-- What is encrypted, and what is decrypted. -/
def enz (k : Int) (zs : List Int) : List Int := adds (ks k) zs
def dez (k : Int) (zs : List Int) : List Int := adds (nks k) zs

end Go.Proofs.Ytlbijjifeaimjaa
