/- Chapter 2's other functions, the program's and the document's: what each gives. No conditions but a length that a machine holds. -/
import Derived.Test.YtaekjnacigicoaaRduI
import Derived.Test.YtaekjnacigicoaaBa3
namespace Go.Proofs.Ytaekjnacigicoaa
open Go Go.RowKit
set_option linter.unusedVariables false

/-- The varints of all values. -/
def enc (zs : List Int) : List Int := zs.flatMap uvz
theorem enc_len (zs : List Int) : (enc zs).length ≤ 6 * zs.length := by
  induction zs with
  | nil => simp [enc]
  | cons z zs ih =>
    have := uvz_len z
    simp only [enc, List.flatMap_cons, List.length_append, List.length_cons] at ih ⊢
    omega
theorem enc_take (zs : List Int) (j : Nat) (hj : j < zs.length) : enc (zs.take j) ++ uvz (zs.getD j 0) = enc (zs.take (j + 1)) := by
  have e : zs.getD j 0 = zs[j] := by simp [List.getD_eq_getElem?_getD, List.getElem?_eq_getElem hj]
  rw [List.take_succ_eq_append_getElem hj, e]
  unfold enc
  rw [List.flatMap_append]
  simp only [List.flatMap_cons, List.flatMap_nil, List.append_nil]
theorem enc_take_len (zs : List Int) (j : Nat) : (enc (zs.take j)).length ≤ 6 * zs.length := by
  have := enc_len (zs.take j)
  have h2 : (zs.take j).length ≤ zs.length := by simp; omega
  omega

end Go.Proofs.Ytaekjnacigicoaa
