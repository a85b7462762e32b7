/- EqualPointKeys and EncodePointKey, the program's and the document's. No conditions but numbers that a machine holds. -/
import Derived.Test.YtaekjnacigicoaaPk6
import Derived.Test.YtaekjnacigicoaaEnc2
import Derived.Test.YtaekjnacigicoaaBa2
namespace Go.Proofs.Ytaekjnacigicoaa
open Go Go.RowKit
set_option linter.unusedVariables false
attribute [local irreducible] kh

def epk (ra ba : Int) (cs : List Cor) (rb bb : Int) (ds : List Cor) : Bool := (ra == rb) && ((ba == bb) && decide (cs = ds))

/-! ### EncodePointKey -/

theorem Own.lits3 {B : Nat} {w : World} {x y z : Int} (e : TypeId) (hB : B ≤ w.heap.size) (hx : (Lit.int .i64 x).wf = true) (hy : (Lit.int .i64 y).wf = true) (hz : (Lit.int .i64 z).wf = true) : Own e .i64 B (w.alloc (.cells #[.int .i64 x, .int .i64 y, .int .i64 z] e)) (.slice (some ⟨w.heap.size, 0, none⟩) 3 3) [x, y, z] :=
  ⟨by intro u hu; simp at hu; rcases hu with rfl | rfl | rfl; exact hx; exact hy; exact hz, by simp; omega, World.ownsRow_lit w #[.int .i64 x, .int .i64 y, .int .i64 z] 3 hB (by unfold maxLen; omega) rfl⟩
theorem enc_no {r b : Int} {cs : List Cor} (h : vk r b cs = false) : (if vk r b cs = true then enc (pkInts r b cs) else []) = [] := by rw [h]; rfl
def epkBytes (r b : Int) (cs : List Cor) : List Int := if vk r b cs = true then enc (pkInts r b cs) else []

end Go.Proofs.Ytaekjnacigicoaa
