/- Mailboxes: what is sent; the program's and the document's. No conditions but numbers that a machine holds. -/
import Derived.Test.YtlhpjfhglkngfaaDoorMb1
import Derived.Test.YtlhpjfhglkngfaaDoorCl2
import Derived.Test.YtlhpjfhglkngfaaDoorCl3
import Derived.Deep.RegionWith
namespace Go.Proofs.YtlhpjfhglkngfaaDoor
open Go Go.RowKit
set_option linter.unusedVariables false
attribute [local irreducible] kh kid

theorem sdS_no {k s r d : Int} {b : List Int} (h : sdok k s r d b = false) : sdS k s r d b = s := if_neg (by rw [h]; decide)
theorem sdL_no {k s r d : Int} {b : List Int} (h : sdok k s r d b = false) : sdL k s r d b = [] := if_neg (by rw [h]; decide)
theorem sdS_yes {k s r d : Int} {b : List Int} (h : sdok k s r d b = true) : sdS k s r d b = s + 1 := if_pos h
theorem sdL_yes {k s r d : Int} {b : List Int} (h : sdok k s r d b = true) : sdL k s r d b = sealL (dkey k d) s 1 b := if_pos h
/-- Two blocks, in the world behind both. -/
theorem two_new (w : World) (o1 o2 : Obj) : ((w.alloc o1).alloc o2).heap[w.heap.size]? = some o1 ∧ ((w.alloc o1).alloc o2).heap[w.heap.size + 1]? = some o2 ∧ Below w.heap.size w ((w.alloc o1).alloc o2) := by
  have h1 := heap_alloc_new w o1
  have h2 := heap_alloc_new (w.alloc o1) o2
  rw [World.size_alloc] at h2
  exact ⟨(heap_alloc_old (w.alloc o1) o2 (lt_of_block h1)).trans h1, h2, ((Below.refl _ _).alloc (Nat.le_refl _) _).alloc (by simp) _⟩

end Go.Proofs.YtlhpjfhglkngfaaDoor
