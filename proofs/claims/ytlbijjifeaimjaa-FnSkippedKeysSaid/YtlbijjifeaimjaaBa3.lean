/- The helpers of the exact laws on slices of u8: a copy, whether two are equal, marks. No conditions but a length that a machine holds. The helpers of the exact laws on slices of i64: a copy, whether two are equal, marks. No conditions but a length that a machine holds. -/
import Derived.Test.YtlbijjifeaimjaaRows
import Derived.Test.YtlbijjifeaimjaaBa1
import Derived.WalkKit
import Derived.Handy
import Derived.Outline
import Derived.WalkSpells
import Derived.Deep.QuietTactic
import Derived.BigQuiet
import Derived.Lib.Hide

/-! CopyByte -/
namespace Go.Proofs.Ytlbijjifeaimjaa
open Go Go.RowKit
set_option linter.unusedVariables false

theorem infou8 : (Try.prog.info? 5).map (fun i => (i.zero, i.size, i.bytes)) = some (some (.int .u8 0), 1, 1) := by kernel_rfl

theorem below_drewN {B : Nat} {w w' : World} (h : ∃ m, w' = w.drewN m) : Below B w w' := by
  obtain ⟨m, rfl⟩ := h
  exact ⟨rfl, rfl, rfl, Nat.le_refl _, fun _ _ => rfl⟩
theorem Rd.drewN {l : Nat} {k : IntKind} {w : World} {v : Value} {zs : List Int} (h : Rd l k w v zs) (n : Nat) : Rd l k (w.drewN n) v zs := h.behind (below_drewN ⟨n, rfl⟩)
theorem drewN_more {w w' : World} (h : ∃ m, w' = w.drewN m) (n : Nat) : ∃ m, w'.drewN n = w.drewN m := by
  obtain ⟨m, rfl⟩ := h
  exact ⟨m + n, by rw [World.drewN_drewN]⟩

/-- The marks from k0 on. -/
def marksByte (k0 : Int) (n : Nat) : List Int := (List.range n).map fun (i : Nat) => (k0 + i) % 256

theorem marksByte_length (k0 : Int) (n : Nat) : (marksByte k0 n).length = n := by simp [marksByte]
theorem marksByte_get (k0 : Int) (n j : Nat) (hj : j < n) : (marksByte k0 n).getD j 0 = (k0 + j) % 256 := by
  simp [marksByte, List.getD_eq_getElem?_getD, hj]

end Go.Proofs.Ytlbijjifeaimjaa


/-! CopyInt -/
namespace Go.Proofs.Ytlbijjifeaimjaa
open Go Go.RowKit
set_option linter.unusedVariables false

theorem infoi64 : (Try.prog.info? 3).map (fun i => (i.zero, i.size, i.bytes)) = some (some (.int .i64 0), 1, 8) := by kernel_rfl

/-- The marks from k0 on. -/
def marksInt (k0 : Int) (n : Nat) : List Int := (List.range n).map fun (i : Nat) => k0 + i

theorem marksInt_length (k0 : Int) (n : Nat) : (marksInt k0 n).length = n := by simp [marksInt]
theorem marksInt_get (k0 : Int) (n j : Nat) (hj : j < n) : (marksInt k0 n).getD j 0 = k0 + j := by
  simp [marksInt, List.getD_eq_getElem?_getD, hj]

end Go.Proofs.Ytlbijjifeaimjaa
