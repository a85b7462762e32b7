/- Mailboxes: rows, keys of directions, valid mailboxes; the program's and the document's. No conditions but numbers that a machine holds. -/
import Derived.Test.YtdlbpeippmibcaaMbN
import Derived.Test.YtdlbpeippmibcaaCl1
import Derived.Test.YtdlbpeippmibcaaBbC
namespace Go.Proofs.Ytdlbpeippmibcaa
open Go Go.RowKit
set_option linter.unusedVariables false
attribute [local irreducible] kh kid

theorem Own.lits3 {B : Nat} {w : World} {x y z : Int} (k : IntKind) (e : TypeId) (hB : B ≤ w.heap.size) (hx : (Lit.int k x).wf = true) (hy : (Lit.int k y).wf = true) (hz : (Lit.int k z).wf = true) : Own e k B (w.alloc (.cells #[.int k x, .int k y, .int k z] e)) (.slice (some ⟨w.heap.size, 0, none⟩) 3 3) [x, y, z] :=
  ⟨by intro t ht; simp at ht; rcases ht with rfl | rfl | rfl; exact hx; exact hy; exact hz, by simp; omega, World.ownsRow_lit w #[.int k x, .int k y, .int k z] 3 hB (by unfold maxLen; omega) rfl⟩
theorem pt0 (x y z : Value) : (#[x, y, z] : Array Value)[0]? = some x := rfl
theorem pt1 (x y z : Value) : (#[x, y, z] : Array Value)[1]? = some y := rfl
theorem pt2 (x y z : Value) : (#[x, y, z] : Array Value)[2]? = some z := rfl
/-- A block of three cells. -/
theorem ptc {w : World} {b : Nat} {y0 y1 y2 : Value} {t : TypeId} (h : w.heap[b]? = some (.cells #[y0, y1, y2] t (0, 0))) : w.cell? ⟨b, 0, none⟩ = some y0 ∧ w.cell? ⟨b, 1, none⟩ = some y1 ∧ w.cell? ⟨b, 2, none⟩ = some y2 ∧ w.frozen? ⟨b, 0, none⟩ = false ∧ w.frozen? ⟨b, 1, none⟩ = false ∧ w.frozen? ⟨b, 2, none⟩ = false :=
  ⟨(blk_cell h 0).trans (pt0 _ _ _), (blk_cell h 1).trans (pt1 _ _ _), (blk_cell h 2).trans (pt2 _ _ _), blk_free h 0, blk_free h 1, blk_free h 2⟩
/-- .. all written. -/
theorem pst3 {w : World} {b : Nat} {y0 y1 y2 : Value} {t : TypeId} (h : w.heap[b]? = some (.cells #[y0, y1, y2] t (0, 0))) (x0 x1 x2 : Value) :
    (((w.setCell ⟨b, 0, none⟩ x0).setCell ⟨b, 1, none⟩ x1).setCell ⟨b, 2, none⟩ x2).heap[b]? = some (.cells #[x0, x1, x2] t (0, 0)) ∧ w.grownBy (((w.setCell ⟨b, 0, none⟩ x0).setCell ⟨b, 1, none⟩ x1).setCell ⟨b, 2, none⟩ x2) (some b) :=
  ⟨blk_set (blk_set (blk_set h 0 x0) 1 x1) 2 x2, grown_trans (grown_trans (grown_set _ _ _ _) (grown_set _ _ _ _)) (grown_set _ _ _ _)⟩

end Go.Proofs.Ytdlbpeippmibcaa
