/- Chapter 2's appending functions, the program's and the document's: what each gives. No conditions but a length that a machine holds. -/
import Derived.Test.YtjbkhbbchacooaaGreatDoorRows
import Derived.Test.YtjbkhbbchacooaaGreatDoorBa1
import Derived.Test.YtjbkhbbchacooaaGreatDoorBa7
import Derived.Test.YtjbkhbbchacooaaGreatDoorBa3
import Derived.WalkKit
import Derived.Handy
import Derived.Outline
import Derived.WalkSpells
import Derived.Deep.QuietTactic
import Derived.BigQuiet
import Derived.Lib.Hide
namespace Go.Proofs.YtjbkhbbchacooaaGreatDoor
open Go Go.RowKit
set_option linter.unusedVariables false

set_option maxHeartbeats 1000000 in
/-- impl.copyBytes: a row of its own with the same elements. -/
theorem copyBytes_any {lim : Nat} {w : World} {v : Value} {zs : List Int} (h : Rd lim .u8 w v zs) (hlim : lim ≤ w.heap.size) (hn : zs.length ≤ 140737488355328) :
    Calls Tryz.prog 93 #[v] w fun e w' => ∃ v', e = .returned v' ∧ Own 5 .u8 w.heap.size w' v' zs ∧ Below w.heap.size w w' := by
  obtain ⟨i0, hi, hz0, hz1, hz2⟩ := info_parts infou8
  have Hhi := Lib.hid hi
  have HR : Hid (Rd lim .u8 (w.alloc (.cells #[] 5)) v zs) := Lib.hid (h.behind (((Below.refl w.heap.size w).alloc (Nat.le_refl _) _).mono hlim))
  have HO : Hid (Own 5 .u8 w.heap.size (w.alloc (.cells #[] 5)) (.slice (some ⟨w.heap.size, 0, none⟩) 0 0) []) := Lib.hid (Own.lit _ _ (Nat.le_refl _))
  clear h hi
  go_enter Tryz.func93, Tryz.ntmps93
  go_wp2_with (first | (at_builtin; refine append_rd _ rfl _ _ 22 rfl 5 i0 (.int .u8 0) 1 Tryz.underlying22 Hhi.out hz0 hz1 hz2 rfl (by omega) rfl HO.out rfl HR.out (by simpa using hn) ?_))
  intro v' w' h1 h2
  have HB := Lib.hid ((((Below.refl w.heap.size w).alloc (Nat.le_refl _) _).trans (HO.out.below (Nat.le_refl _) h2)))
  have H1 := Lib.hid h1
  clear h1 h2
  go_wp2
  go_ret
  exact ⟨v', rfl, by simpa using H1.out, HB.out⟩

/-- Whether x lies between a and b. -/
def inR (x a b : Int) : Bool := decide (a ≤ x) && decide (x ≤ b)
theorem inR_yes {x a b : Int} (h : a ≤ x ∧ x ≤ b) : inR x a b = true := by simp [inR, h.1, h.2]
theorem inR_no {x a b : Int} (h : ¬ (a ≤ x ∧ x ≤ b)) : inR x a b = false := by
  rw [Bool.eq_false_iff]
  intro h'
  simp [inR] at h'
  exact h h'

theorem impl_in (x a b : Int) (w : World) (hx : (Lit.int .i64 x).wf = true) : Calls Tryz.prog 32 #[.int .i64 x, .int .i64 a, .int .i64 b] w fun e w' => e = .returned (.bool (inR x a b)) ∧ w' = w := by
  by_cases h1 : a ≤ x
  · have e1 : decide (a ≤ x) = true := by simpa using h1
    go_enter Tryz.func32, Tryz.ntmps32
    go_wp2
    go_ret
    unfold inR
    rw [e1]
    exact ⟨rfl, rfl⟩
  · have e1 : decide (a ≤ x) = false := by simpa using h1
    go_enter Tryz.func32, Tryz.ntmps32
    go_wp2
    go_ret
    unfold inR
    rw [e1]
    exact ⟨rfl, rfl⟩
theorem spec_in (x a b : Int) (w : World) (hx : (Lit.int .i64 x).wf = true) : Calls Tryz.prog 67 #[.int .i64 x, .int .i64 a, .int .i64 b] w fun e w' => e = .returned (.bool (inR x a b)) ∧ w' = w := by
  by_cases h1 : a ≤ x
  · have e1 : decide (a ≤ x) = true := by simpa using h1
    go_enter Tryz.func67, Tryz.ntmps67
    go_wp2
    go_ret
    unfold inR
    rw [e1]
    exact ⟨rfl, rfl⟩
  · have e1 : decide (a ≤ x) = false := by simpa using h1
    go_enter Tryz.func67, Tryz.ntmps67
    go_wp2
    go_ret
    unfold inR
    rw [e1]
    exact ⟨rfl, rfl⟩

end Go.Proofs.YtjbkhbbchacooaaGreatDoor
