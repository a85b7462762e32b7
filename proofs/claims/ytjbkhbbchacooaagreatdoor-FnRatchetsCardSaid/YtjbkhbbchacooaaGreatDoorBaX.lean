/- The laws' helpers on []byte, []int, [][]byte, [][]int, in the words of BaT. No conditions but a size that a machine holds. -/
import Derived.Test.YtjbkhbbchacooaaGreatDoorBbT
import Derived.Test.YtjbkhbbchacooaaGreatDoorBa3
import Derived.Test.YtjbkhbbchacooaaGreatDoorBa4
import Derived.Test.YtjbkhbbchacooaaGreatDoorBa6
namespace Go.Proofs.YtjbkhbbchacooaaGreatDoor
open Go Go.RowKit
set_option linter.unusedVariables false

section
variable {F : Nat → Prop} {w : World} {u v : Value} {zs : List Int} {zss : List (List Int)} {l l1 l2 : Nat} {e e1 e2 t t1 t2 : TypeId} {k0 left : Int}

/-! ### []byte -/

theorem toByteS_t (h : (sliceT e u8T).rd l w [v] zs) (hl : l ≤ w.heap.size) (hn : (sliceT e u8T).tot zs ≤ 1073741824) :
    Calls Tryz.prog 20 #[v] w fun e w' => ∃ v', e = .returned v' ∧ (sliceT 5 u8T).own (ival w.heap.size w'.heap.size) w' [v'] zs ∧ Below w.heap.size w w' := by
  have h2 : totL u8T zs ≤ 1073741824 := hn
  rw [show totL u8T zs = zs.length from totL_int _ _ _ _] at h2
  refine (toByteS_any (rd_of_sl h) hl (by omega)).mono ?_
  rintro e w' ⟨v', he, hO, hb⟩
  exact ⟨v', he, slo_of_own hO (fun b h1 h2 => ⟨h1, h2⟩), hb⟩
theorem eqByteS_same_t (hu : (sliceT e1 u8T).rd l1 w [u] zs) (hv : (sliceT e2 u8T).rd l2 w [v] zs) (hl1 : l1 ≤ w.heap.size) (hl2 : l2 ≤ w.heap.size) :
    Calls Tryz.prog 22 #[u, v] w fun e w' => e = .returned (.bool true) ∧ Below w.heap.size w w' := eqByteS_same (rd_of_sl hu) (rd_of_sl hv) hl1 hl2
theorem markByteS_t (h : (sliceT e u8T).own F w [v] zs) (h0 : 0 ≤ k0) (hk : k0 + (sliceT e u8T).vcnt zs ≤ 9223372036854775807) :
    Calls Tryz.prog 24 #[v, .int .i64 k0] w fun e' w' => e' = .returned (.int .i64 (k0 + (sliceT e u8T).vcnt zs)) ∧ (sliceT e u8T).own F w' [v] ((sliceT e u8T).vmrk k0 zs) ∧ KeptF F w w' := by
  have hc : (sliceT e u8T).vcnt zs = zs.length := cntL_int _ _ _ _
  have hm : (sliceT e u8T).vmrk k0 zs = marksByte k0 zs.length := mkL_u8 k0 zs
  rw [hc] at hk ⊢
  rw [hm]
  obtain ⟨hO, hI⟩ := own_of_slo h
  refine (markByteS_any hO h0 hk).mono ?_
  rintro e w' ⟨he, h1, hg⟩
  exact ⟨he, slo_of_own_in h1 hI, KeptF.of_grown hg (fun b hb => hI b hb)⟩
theorem heldByteS_t {x : List Int} (h : (sliceT e u8T).rd l w [v] ((sliceT e u8T).vmrk k0 x)) (hl : l ≤ w.heap.size) (h0 : 0 ≤ k0) (hk : k0 + (sliceT e u8T).vcnt x ≤ 9223372036854775807) :
    Calls Tryz.prog 26 #[v, .int .i64 k0] w fun e' w' => e' = .returned (.int .i64 (k0 + (sliceT e u8T).vcnt x)) ∧ Below w.heap.size w w' := by
  have hc : (sliceT e u8T).vcnt x = x.length := cntL_int _ _ _ _
  have hm : (sliceT e u8T).vmrk k0 x = marksByte k0 x.length := mkL_u8 k0 x
  rw [hc] at hk ⊢
  rw [hm] at h
  exact heldByteS_any (rd_of_sl h) hl h0 hk

/-! ### []int -/

/-! ### [][]byte -/

/-! ### [][]int -/

end

end Go.Proofs.YtjbkhbbchacooaaGreatDoor
