/- Max, the program's and the document's. No conditions. -/
import Derived.Test.YtjhoepjmdiifnaaRows
import Derived.Test.YtjhoepjmdiifnaaRd
import Derived.Test.YtjhoepjmdiifnaaMod
namespace Go.Proofs.Ytjhoepjmdiifnaa
open Go Go.RowKit
set_option linter.unusedVariables false

/-- The greater one. -/
def mx (a b : Int) : Int := if a < b then b else a
theorem mx_lt {a b : Int} (h : a < b) : mx a b = b := if_pos h
theorem mx_ge {a b : Int} (h : ¬ a < b) : mx a b = a := if_neg h

theorem impl_max (a b : Int) (w : World) (ha : (Lit.int .i64 a).wf = true) (hb : (Lit.int .i64 b).wf = true) :
    Calls Try.prog 56 #[.int .i64 a, .int .i64 b] w fun e w' => e = .returned (.int .i64 (mx a b)) ∧ Below w.heap.size w w' := by
  by_cases h1 : a < b
  · have hv := Lib.hid (mx_lt h1)
    go_enter Try.func56, Try.ntmps56
    go_wp2
    go_rounds 2
    all_goals go_ret
    all_goals exact ⟨rint hv.out.symm, (Below.refl w.heap.size w).alloc (Nat.le_refl _) _⟩
  · have hv := Lib.hid (mx_ge h1)
    go_enter Try.func56, Try.ntmps56
    go_wp2
    go_rounds 2
    all_goals go_ret
    all_goals exact ⟨rint hv.out.symm, (Below.refl w.heap.size w).alloc (Nat.le_refl _) _⟩

theorem spec_max (a b : Int) (w : World) :
    Calls Try.prog 57 #[.int .i64 a, .int .i64 b] w fun e w' => e = .returned (.int .i64 (mx a b)) ∧ w' = w := by
  by_cases h1 : a < b
  · have hv := Lib.hid (mx_lt h1)
    go_enter Try.func57, Try.ntmps57
    go_wp2
    go_ret
    exact ⟨rint hv.out.symm, rfl⟩
  · have hv := Lib.hid (mx_ge h1)
    go_enter Try.func57, Try.ntmps57
    go_wp2
    go_ret
    exact ⟨rint hv.out.symm, rfl⟩

end Go.Proofs.Ytjhoepjmdiifnaa
