/- EvaluatePoint, the program's and the document's. No conditions but numbers that a machine holds. -/
import Derived.Test.YtaekjnacigicoaaPk3
import Derived.ChangeKeysEq
namespace Go.Proofs.Ytaekjnacigicoaa
open Go Go.RowKit
set_option linter.unusedVariables false
attribute [local irreducible] kh

theorem lf_wf2 {st : Int × Int} (h : (Lit.int .i64 st.2).wf = true) (cs : List Cor) (i : Nat) : (Lit.int .i64 (lf st cs i).2).wf = true := by
  induction cs generalizing st with
  | nil => exact h
  | cons c l ih => rw [lf_cons]; exact ih (evN_wf2 _ _ _ _)
theorem ept_no {r b : Int} {cs : List Cor} {i : Int} (h : vk r b cs = false) : ept r b cs i = 0 := by unfold ept; rw [h]; rfl
theorem ept_out {r b : Int} {cs : List Cor} {i : Int} (h : leafOk cs.length i = false) : ept r b cs i = 0 := by unfold ept; rw [h, Bool.and_false]; rfl
theorem ept_yes {r b : Int} {cs : List Cor} {i : Int} (h : vk r b cs = true) (hi : leafOk cs.length i = true) : ept r b cs i = (lf (r, b) cs i.toNat).2 := by unfold ept; rw [h, hi]; rfl
theorem ept_wf {r b : Int} (hb : (Lit.int .i64 b).wf = true) (cs : List Cor) (i : Int) : (Lit.int .i64 (ept r b cs i)).wf = true := by
  unfold ept
  split
  · exact lf_wf2 hb _ _
  · decide

theorem node_bit (w : World) (x1 x2 : Int) : (Instr.field 44 (.agg #[.int .i64 x1, .int .i64 x2]) 1).run Try.prog w = .ok (.int .i64 x2) w := by
  have p := run_part_plain (P := Try.prog) w (e := 3) (by kernel_rfl) (show (#[.int .i64 x1, .int .i64 x2] : Array Value)[1]? = some (.int .i64 x2) from rfl)
  simp [Instr.field, run_underlying Try.underlying44, asAgg, p]

end Go.Proofs.Ytaekjnacigicoaa
