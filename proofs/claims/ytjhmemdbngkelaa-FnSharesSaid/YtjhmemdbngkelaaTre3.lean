/- Trees of seeds: LeafSeeds and StreamBytes, the program's and the document's. No conditions but numbers that a machine holds. -/
import Derived.Test.YtjhmemdbngkelaaTre2
namespace Go.Proofs.Ytjhmemdbngkelaa
open Go Go.RowKit
set_option linter.unusedVariables false
attribute [local irreducible] kh

theorem pow_nat {D N : Nat} (h : N = 2 ^ D) : (2 : Int) ^ D = (N : Int) := by rw [h]; simp
theorem lseeds_yes {r : Int} {D : Nat} (h : inR (D : Int) 0 6 = true) : lseeds r (D : Int) = (List.range (2 ^ D)).map (dsc r D) := by
  unfold lseeds; rw [if_pos h, Int.toNat_natCast]
theorem lseeds_no {r d : Int} (h : inR d 0 6 = false) : lseeds r d = [] := by
  unfold lseeds; rw [h]; rfl
theorem lseed_yes {r : Int} {D I : Nat} (h : leafOk (D : Int) (I : Int) = true) : lseed r (D : Int) (I : Int) = dsc r D I := by
  unfold lseed; rw [if_pos h, Int.toNat_natCast, Int.toNat_natCast]
theorem map_len {f : Nat → Int} (n : Nat) : ((List.range n).map f).length = n := by simp

end Go.Proofs.Ytjhmemdbngkelaa
