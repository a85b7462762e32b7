/- Sealed cells: the program's plain bytes and SealCell. No conditions but numbers that a machine holds. -/
import Derived.Test.YtdccljmffmlkbaaCl1
import Derived.Test.YtdccljmffmlkbaaBa8
import Derived.Test.YtdccljmffmlkbaaBbC
import Derived.Test.YtdccljmffmlkbaaHeldL
import Derived.Deep.RegionWith
import Derived.Deep.RegionHeld3
namespace Go.Proofs.Ytdccljmffmlkbaa
open Go Go.RowKit
set_option linter.unusedVariables false
attribute [local irreducible] kh kid

theorem sok_parts {k n d : Int} {b : List Int} (h : sok k n d b = true) : inR k 1 2147483646 = true ∧ inR n 0 1000000000000 = true ∧ okPlain d b = true ∧ (0 ≤ d ∧ d ≤ 3) ∧ b.length ≤ 14 := by
  unfold sok at h
  simp only [Bool.and_eq_true] at h
  obtain ⟨h1, h2, h3⟩ := h
  refine ⟨h1, h2, h3, ?_⟩
  unfold okPlain inR at h3
  simp only [Bool.and_eq_true, decide_eq_true_eq] at h3
  exact h3

end Go.Proofs.Ytdccljmffmlkbaa
