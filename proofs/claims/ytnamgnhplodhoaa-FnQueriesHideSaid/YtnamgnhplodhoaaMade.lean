/- A row that make made. No program. -/
import Derived.Test.YtnamgnhplodhoaaJ3
import Derived.WalkKit
namespace Go.Proofs.Ytnamgnhplodhoaa
open Go Go.RowKit
set_option linter.unusedVariables false

theorem own_made {e : TypeId} {k : IntKind} {B : Nat} {w : World} {g cap n : Nat} (ho : w.ownsRow B e 1 (.slice (some ⟨g, 0, none⟩) n cap) n (madeCells #[.int k 0] n).toList) (hB : B ≤ w.heap.size) (hz : (Lit.int k 0).wf = true) :
    Own e k B w (.slice (some ⟨g, 0, none⟩) n cap) (List.replicate n 0) := by
  refine ⟨fun z hz' => ?_, hB, ?_⟩
  · rw [List.eq_of_mem_replicate hz']; exact hz
  · rw [toList_madeCells_one] at ho
    rw [List.length_replicate, List.map_replicate]
    exact ho
theorem upt_rep (f : Nat → Int) (n : Nat) : upt f (fun _ => 0) 0 n = List.replicate n 0 := by
  rw [upt_zero, List.eq_replicate_iff]
  refine ⟨by simp, fun x hx => ?_⟩
  obtain ⟨y, _, rfl⟩ := List.mem_map.1 hx
  rfl

/-- A literal of two elements. -/
theorem Rd.two (e : TypeId) (k : IntKind) (w : World) (y z : Int) (hy : (Lit.int k y).wf = true) (hz : (Lit.int k z).wf = true) : Rd (w.heap.size + 1) k (w.alloc (.cells #[.int k y, .int k z] e)) (.slice (some ⟨w.heap.size, 0, none⟩) 2 2) [y, z] := by
  refine ⟨?_, _, 2, rfl, Nat.le_refl _, by unfold maxLen; omega, .inr ⟨_, rfl, fun i hi => ?_, .inl (Nat.lt_succ_self _)⟩⟩
  · intro x hx
    simp at hx
    rcases hx with rfl | rfl
    · exact hy
    · exact hz
  · have hi2 : i = 0 ∨ i = 1 := by simp at hi; omega
    have e1 : (⟨w.heap.size, 0, none⟩ : Addr).add i = ⟨w.heap.size, i, none⟩ := by unfold Addr.add; split <;> simp_all
    rw [e1]
    have := blk_cell (heap_alloc_new w (.cells #[.int k y, .int k z] e)) i
    rw [this]
    rcases hi2 with rfl | rfl <;> rfl

/-- An empty literal behind another block. -/
theorem Own.lit2 {e : TypeId} {k : IntKind} {B : Nat} {w : World} (o : Obj) (hB : B ≤ w.heap.size) : Own e k B ((w.alloc o).alloc (.cells #[] e)) (.slice (some ⟨w.heap.size + 1, 0, none⟩) 0 0) [] := by
  have := Own.lit (w := w.alloc o) (B := B) e k (by simp; omega)
  rwa [World.size_alloc] at this

end Go.Proofs.Ytnamgnhplodhoaa
