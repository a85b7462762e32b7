/- Sealed cells: valid plain messages, check values, cover cells, the cipher's key, the check value's bytes; the program's and the document's. No conditions but numbers that a machine holds. -/
import Derived.Test.YtlbijjifeaimjaaBdN
import Derived.Test.YtlbijjifeaimjaaBa6
namespace Go.Proofs.Ytlbijjifeaimjaa
open Go Go.RowKit
set_option linter.unusedVariables false
attribute [local irreducible] kh kid

theorem Own.lits2 {B : Nat} {w : World} {x y : Int} (k : IntKind) (e : TypeId) (hB : B ≤ w.heap.size) (hx : (Lit.int k x).wf = true) (hy : (Lit.int k y).wf = true) : Own e k B (w.alloc (.cells #[.int k x, .int k y] e)) (.slice (some ⟨w.heap.size, 0, none⟩) 2 2) [x, y] :=
  ⟨by intro u hu; simp at hu; rcases hu with rfl | rfl; exact hx; exact hy, by simp; omega, World.ownsRow_lit w #[.int k x, .int k y] 2 hB (by unfold maxLen; omega) rfl⟩
theorem pc0 (x y : Value) : (#[x, y] : Array Value)[0]? = some x := rfl
theorem pc1 (x y : Value) : (#[x, y] : Array Value)[1]? = some y := rfl

/-- A block of two cells, both written. -/
theorem pst {w : World} {b : Nat} {y0 y1 : Value} {t : TypeId} (h : w.heap[b]? = some (.cells #[y0, y1] t (0, 0))) (x0 x1 : Value) :
    ((w.setCell ⟨b, 0, none⟩ x0).setCell ⟨b, 1, none⟩ x1).heap[b]? = some (.cells #[x0, x1] t (0, 0)) ∧ w.grownBy ((w.setCell ⟨b, 0, none⟩ x0).setCell ⟨b, 1, none⟩ x1) (some b) :=
  ⟨blk_set (blk_set h 0 x0) 1 x1, grown_trans (grown_set _ _ _ _) (grown_set _ _ _ _)⟩
theorem pcs {w : World} {b : Nat} {y0 y1 : Value} {t : TypeId} (h : w.heap[b]? = some (.cells #[y0, y1] t (0, 0))) : w.cell? ⟨b, 0, none⟩ = some y0 ∧ w.cell? ⟨b, 1, none⟩ = some y1 ∧ w.frozen? ⟨b, 0, none⟩ = false ∧ w.frozen? ⟨b, 1, none⟩ = false :=
  ⟨(blk_cell h 0).trans (pc0 _ _), (blk_cell h 1).trans (pc1 _ _), blk_free h 0, blk_free h 1⟩

set_option maxHeartbeats 2000000 in
/-- The lowest bytes of a number, the low one first. -/
def lowL (x : Int) (m : Nat) : List Int := (List.range m).map (le4f x)
theorem lowL_four (x : Int) : lowL x 4 = le4 x := rfl
theorem lowL_two (x : Int) : lowL x 2 = [x % 256, x / 256 % 256] := by
  unfold lowL le4f
  simp [List.range, List.range.loop]

end Go.Proofs.Ytlbijjifeaimjaa
