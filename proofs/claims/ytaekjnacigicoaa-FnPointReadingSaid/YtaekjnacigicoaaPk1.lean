/- Nodes of point keys: EvaluateNode, the program's and the document's, and the program's small functions. No conditions but numbers that a machine holds. -/
import Derived.Test.YtaekjnacigicoaaPkN
import Derived.Test.YtaekjnacigicoaaBbR
import Derived.Test.YtaekjnacigicoaaHp10
import Derived.RegionTactic
import Derived.Deep.RegionWith
import Derived.Deep.QuietTactic
import Derived.BigQuiet
namespace Go.Proofs.Ytaekjnacigicoaa
open Go Go.RowKit
set_option linter.unusedVariables false
attribute [local irreducible] kh

theorem isBit_any {w : World} {n : Int} (hn : (Lit.int .i64 n).wf = true) : Calls Try.prog 37 #[.int .i64 n] w fun e w' => e = .returned (.bool (inR n 0 1)) ∧ w' = w := by
  have HN := Lib.hid hn
  clear hn
  go_enter Try.func37, Try.ntmps37
  go_wp2_with fail
  refine (impl_in _ _ _ _ HN.out).mono ?_
  rintro e w1 ⟨rfl, hw⟩
  subst hw
  go_wp2
  go_ret
  exact ⟨rfl, rfl⟩
theorem isRoot_any {w : World} {n : Int} (hn : (Lit.int .i64 n).wf = true) : Calls Try.prog 14 #[.int .i64 n] w fun e w' => e = .returned (.bool (inR n 0 2147483646)) ∧ w' = w := by
  have HN := Lib.hid hn
  clear hn
  go_enter Try.func14, Try.ntmps14
  go_wp2_with fail
  refine (impl_in _ _ _ _ HN.out).mono ?_
  rintro e w1 ⟨rfl, hw⟩
  subst hw
  go_wp2
  go_ret
  exact ⟨rfl, rfl⟩
theorem depth_any {w : World} {a : Option Addr} {n cap : Nat} : Calls Try.prog 27 #[.slice a n cap] w fun e w' => e = .returned (.int .i64 (n : Int)) ∧ w' = w := by
  go_enter Try.func27, Try.ntmps27
  go_wp2
  go_ret
  exact ⟨rfl, rfl⟩

theorem inR01 {x : Int} (h : inR x 0 1 = true) : x = 0 ∨ x = 1 := by
  unfold inR at h
  simp at h
  omega

theorem tw0 (x y : Value) : (#[x, y] : Array Value)[0]? = some x := rfl
theorem tw1 (x y : Value) : (#[x, y] : Array Value)[1]? = some y := rfl
theorem th0 (x y z : Value) : (#[x, y, z] : Array Value)[0]? = some x := rfl
theorem th1 (x y z : Value) : (#[x, y, z] : Array Value)[1]? = some y := rfl
theorem th2 (x y z : Value) : (#[x, y, z] : Array Value)[2]? = some z := rfl

/-- A block of two cells, written whole. -/
theorem put2 {w : World} {b : Nat} {y z : Value} {t : TypeId} (h : w.heap[b]? = some (.cells #[y, z] t (0, 0))) (u v : Value) :
    ((w.setCell ⟨b, 0, none⟩ u).setCell ⟨b, 1, none⟩ v).heap[b]? = some (.cells #[u, v] t (0, 0)) ∧ KeptF (fun c => c = b) w ((w.setCell ⟨b, 0, none⟩ u).setCell ⟨b, 1, none⟩ v) :=
  ⟨blk_set (blk_set h 0 u) 1 v, (KeptF.of_grown (F := fun c => c = b) (grown_set w b 0 u) (fun c hc => by injection hc with hc; exact hc.symm)).trans (KeptF.of_grown (grown_set _ b 1 v) (fun c hc => by injection hc with hc; exact hc.symm))⟩
/-- A block of three cells, written whole. -/
theorem put3 {w : World} {b : Nat} {x y z : Value} {t : TypeId} (h : w.heap[b]? = some (.cells #[x, y, z] t (0, 0))) (r u v : Value) :
    (((w.setCell ⟨b, 0, none⟩ r).setCell ⟨b, 1, none⟩ u).setCell ⟨b, 2, none⟩ v).heap[b]? = some (.cells #[r, u, v] t (0, 0)) ∧ KeptF (fun c => c = b) w (((w.setCell ⟨b, 0, none⟩ r).setCell ⟨b, 1, none⟩ u).setCell ⟨b, 2, none⟩ v) :=
  ⟨blk_set (blk_set (blk_set h 0 r) 1 u) 2 v, ((KeptF.of_grown (F := fun c => c = b) (grown_set w b 0 r) (fun c hc => by injection hc with hc; exact hc.symm)).trans (KeptF.of_grown (grown_set _ b 1 u) (fun c hc => by injection hc with hc; exact hc.symm))).trans (KeptF.of_grown (grown_set _ b 2 v) (fun c hc => by injection hc with hc; exact hc.symm))⟩

end Go.Proofs.Ytaekjnacigicoaa
