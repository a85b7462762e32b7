/- EvaluateAll and KeySavings, the program's and the document's. No conditions but numbers that a machine holds. -/
import Derived.Test.YtaekjnacigicoaaPk4
namespace Go.Proofs.Ytaekjnacigicoaa
open Go Go.RowKit
set_option linter.unusedVariables false
attribute [local irreducible] kh

theorem pown {D N : Nat} (h : N = 2 ^ D) : (2 : Int) ^ D = (N : Int) := by rw [h]; simp
theorem natw {n : Nat} (h : n ≤ 1000) : (Lit.int .i64 (n : Int)).wf = true := wf_i64_of (by omega) (by omega)
theorem eall_no {r b : Int} {cs : List Cor} (h : vk r b cs = false) : eall r b cs = [] := by unfold eall; rw [h]; rfl
theorem eall_yes {r b : Int} {cs : List Cor} (h : vk r b cs = true) : eall r b cs = (List.range (2 ^ cs.length)).map (fun i => (lf (r, b) cs i).2) := by unfold eall; rw [h]; rfl

theorem sav_no {d : Int} (h : inR d 1 6 = false) : sav d = 0 := by unfold sav; rw [h]; rfl

end Go.Proofs.Ytaekjnacigicoaa
