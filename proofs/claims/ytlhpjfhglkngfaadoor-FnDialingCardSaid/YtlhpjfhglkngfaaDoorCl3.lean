/- Sealed cells: the document's SealCell. No conditions but numbers that a machine holds. -/
import Derived.Test.YtlhpjfhglkngfaaDoorCl1
import Derived.Test.YtlhpjfhglkngfaaDoorBa8
import Derived.Test.YtlhpjfhglkngfaaDoorBbC
import Derived.Test.YtlhpjfhglkngfaaDoorCry6
import Derived.Test.YtlhpjfhglkngfaaDoorHeldL
import Derived.Deep.RegionHeld3
namespace Go.Proofs.YtlhpjfhglkngfaaDoor
open Go Go.RowKit
set_option linter.unusedVariables false
attribute [local irreducible] kh kid

theorem sok_parts' {k n d : Int} {b : List Int} (h : sok k n d b = true) : inR k 1 2147483646 = true ∧ inR n 0 1000000000000 = true ∧ okPlain d b = true ∧ (0 ≤ d ∧ d ≤ 3) ∧ b.length ≤ 14 := by
  unfold sok at h
  simp only [Bool.and_eq_true] at h
  obtain ⟨h1, h2, h3⟩ := h
  refine ⟨h1, h2, h3, ?_⟩
  unfold okPlain inR at h3
  simp only [Bool.and_eq_true, decide_eq_true_eq] at h3
  exact h3
theorem Own.lits4s {B : Nat} {w : World} {x y z u : Int} (k : IntKind) (e : TypeId) (hB : B ≤ w.heap.size) (hx : (Lit.int k x).wf = true) (hy : (Lit.int k y).wf = true) (hz : (Lit.int k z).wf = true) (hu : (Lit.int k u).wf = true) : Own e k B (w.alloc (.cells #[.int k x, .int k y, .int k z, .int k u] e)) (.slice (some ⟨w.heap.size, 0, none⟩) 4 4) [x, y, z, u] :=
  ⟨by intro t ht; simp at ht; rcases ht with rfl | rfl | rfl | rfl; exact hx; exact hy; exact hz; exact hu, by simp; omega, World.ownsRow_lit w #[.int k x, .int k y, .int k z, .int k u] 4 hB (by unfold maxLen; omega) rfl⟩

end Go.Proofs.YtlhpjfhglkngfaaDoor
