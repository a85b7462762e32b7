/- XorRow, the program's and the document's: what each gives. No conditions but a size that a machine holds. -/
import Derived.Test.YtdipignajccdcaaDb5
namespace Go.Proofs.Ytdipignajccdcaa
open Go Go.RowKit
set_option linter.unusedVariables false
attribute [local irreducible] kh

theorem xrK_row {zss : List (List Int)} {i : Int} {c : List Int} (h : hasR zss i = false) : xrK zss i c = false := by unfold xrK; rw [h]; rfl
theorem xrK_size {zss : List (List Int)} {k : Nat} {c : List Int} (h : (zss.getD k []).length ≠ 24) : xrK zss (k : Int) c = false := by
  unfold xrK; rw [Int.toNat_natCast, decide_eq_false h, Bool.and_false, Bool.false_and]
theorem xrK_len {zss : List (List Int)} {i : Int} {c : List Int} (h : c.length ≠ 24) : xrK zss i c = false := by unfold xrK; rw [decide_eq_false h, Bool.and_false]
theorem xrK_yes {zss : List (List Int)} {k : Nat} {c : List Int} (h : k < zss.length) (h1 : (zss.getD k []).length = 24) (h2 : c.length = 24) : xrK zss (k : Int) c = true := by
  unfold xrK; rw [Int.toNat_natCast, decide_eq_true h1, decide_eq_true h2, hasR_yes h]; rfl
theorem xr_no {zss : List (List Int)} {i : Int} {c : List Int} (h : xrK zss i c = false) : xr zss i c = zss := by unfold xr; rw [if_neg (by rw [h]; exact Bool.false_ne_true)]
theorem xr_yes {zss : List (List Int)} {k : Nat} {c : List Int} (h : xrK zss (k : Int) c = true) : xr zss (k : Int) c = zss.set k (xorl (zss.getD k []) c) := by unfold xr; rw [if_pos h]; rfl
theorem xr_rep {zss : List (List Int)} {k : Nat} {c : List Int} (h : k < zss.length) (h1 : (zss.getD k []).length = 24) (h2 : c.length = 24) :
    repK zss (k : Int) (xorl (zss.getD k []) c) = true ∧ rep zss (k : Int) (xorl (zss.getD k []) c) = xr zss (k : Int) c := by
  have h3 : repK zss (k : Int) (xorl (zss.getD k []) c) = true := repK_iff.2 ⟨hasR_yes h, by rw [xorl_len]; omega⟩
  exact ⟨h3, by rw [rep_yes h3, xr_yes (xrK_yes h h1 h2)]⟩

end Go.Proofs.Ytdipignajccdcaa
