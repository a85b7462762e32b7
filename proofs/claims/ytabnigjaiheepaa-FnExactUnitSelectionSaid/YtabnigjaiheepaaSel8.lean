/- What the exact laws of chapter 5 take. No program's text. -/
import Derived.Test.YtabnigjaiheepaaSel2
namespace Go.Proofs.Ytabnigjaiheepaa
open Go Go.RowKit
set_option linter.unusedVariables false

theorem spec_isb {lim : Nat} {w : World} {v : Value} {zs : List Int} {n : Int} (h : Rd lim .i64 w v zs) (hlim : lim ≤ w.heap.size) (hw : (Lit.int .i64 n).wf = true) :
    Calls Try.prog 17 #[v, .int .i64 n] w fun e w' => e = .returned (.bool (isel zs n)) ∧ Below w.heap.size w w' :=
  (spec_is h hw).mono fun _ _ ⟨he, hw⟩ => ⟨he, by rw [hw]; exact Below.refl _ _⟩
theorem unitV_len (r x : Int) : (unitV r x).length ≤ 64 := by
  unfold unitV
  split
  · simp; omega
  · simp
theorem xs2_len (a b : List Int) : (xs2 a b).length ≤ a.length := by
  unfold xs2
  split
  · rw [xors_len]; exact Nat.le_refl _
  · simp

end Go.Proofs.Ytabnigjaiheepaa
