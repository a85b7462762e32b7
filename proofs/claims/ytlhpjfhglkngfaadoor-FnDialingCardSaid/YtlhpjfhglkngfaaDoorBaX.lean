/- The laws' helpers on []byte, []int, [][]byte, [][]int, in the words of BaT. No conditions but a size that a machine holds. -/
import Derived.Test.YtlhpjfhglkngfaaDoorBbT
import Derived.Test.YtlhpjfhglkngfaaDoorBa3
import Derived.Test.YtlhpjfhglkngfaaDoorBa4
import Derived.Test.YtlhpjfhglkngfaaDoorBa6
namespace Go.Proofs.YtlhpjfhglkngfaaDoor
open Go Go.RowKit
set_option linter.unusedVariables false

section
variable {F : Nat → Prop} {w : World} {u v : Value} {zs : List Int} {zss : List (List Int)} {l l1 l2 : Nat} {e e1 e2 t t1 t2 : TypeId} {k0 left : Int}

/-! ### []byte -/

theorem toByteS_t (h : (sliceT e u8T).rd l w [v] zs) (hl : l ≤ w.heap.size) (hn : (sliceT e u8T).tot zs ≤ 1073741824) :
    Calls Tryd.prog 19 #[v] w fun e w' => ∃ v', e = .returned v' ∧ (sliceT 5 u8T).own (ival w.heap.size w'.heap.size) w' [v'] zs ∧ Below w.heap.size w w' := by
  have h2 : totL u8T zs ≤ 1073741824 := hn
  rw [show totL u8T zs = zs.length from totL_int _ _ _ _] at h2
  refine (toByteS_any (rd_of_sl h) hl (by omega)).mono ?_
  rintro e w' ⟨v', he, hO, hb⟩
  exact ⟨v', he, slo_of_own hO (fun b h1 h2 => ⟨h1, h2⟩), hb⟩
theorem eqByteS_same_t (hu : (sliceT e1 u8T).rd l1 w [u] zs) (hv : (sliceT e2 u8T).rd l2 w [v] zs) (hl1 : l1 ≤ w.heap.size) (hl2 : l2 ≤ w.heap.size) :
    Calls Tryd.prog 21 #[u, v] w fun e w' => e = .returned (.bool true) ∧ Below w.heap.size w w' := eqByteS_same (rd_of_sl hu) (rd_of_sl hv) hl1 hl2
/-! ### []int -/

theorem toIntS_t (h : (sliceT e i64T).rd l w [v] zs) (hl : l ≤ w.heap.size) (hn : (sliceT e i64T).tot zs ≤ 1073741824) :
    Calls Tryd.prog 18 #[v] w fun e w' => ∃ v', e = .returned v' ∧ (sliceT 3 i64T).own (ival w.heap.size w'.heap.size) w' [v'] zs ∧ Below w.heap.size w w' := by
  have h2 : totL i64T zs ≤ 1073741824 := hn
  rw [show totL i64T zs = zs.length from totL_int _ _ _ _] at h2
  refine (toIntS_any (rd_of_sl h) hl (by omega)).mono ?_
  rintro e w' ⟨v', he, hO, hb⟩
  exact ⟨v', he, slo_of_own hO (fun b h1 h2 => ⟨h1, h2⟩), hb⟩
theorem eqIntS_same_t (hu : (sliceT e1 i64T).rd l1 w [u] zs) (hv : (sliceT e2 i64T).rd l2 w [v] zs) (hl1 : l1 ≤ w.heap.size) (hl2 : l2 ≤ w.heap.size) :
    Calls Tryd.prog 20 #[u, v] w fun e w' => e = .returned (.bool true) ∧ Below w.heap.size w w' := eqIntS_same (rd_of_sl hu) (rd_of_sl hv) hl1 hl2
/-! ### [][]byte -/

/-! ### [][]int -/

end

end Go.Proofs.YtlhpjfhglkngfaaDoor
