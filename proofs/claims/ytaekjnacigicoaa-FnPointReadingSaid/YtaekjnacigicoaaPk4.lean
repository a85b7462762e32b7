/- EvaluatePoint, the program's and the document's. No conditions but numbers that a machine holds. -/
import Derived.Test.YtaekjnacigicoaaPk3
import Derived.ChangeKeysEq
namespace Go.Proofs.Ytaekjnacigicoaa
open Go Go.RowKit
set_option linter.unusedVariables false
attribute [local irreducible] kh

theorem lf_wf2 {st : Int × Int} (h : (Lit.int .i64 st.2).wf = true) (cs : List Cor) (i : Nat) : (Lit.int .i64 (lf st cs i).2).wf = true := by
  induction cs generalizing st with
  | nil => exact h
  | cons c l ih => rw [lf_cons]; exact ih (evN_wf2 _ _ _ _)
theorem ept_no {r b : Int} {cs : List Cor} {i : Int} (h : vk r b cs = false) : ept r b cs i = 0 := by unfold ept; rw [h]; rfl
theorem ept_out {r b : Int} {cs : List Cor} {i : Int} (h : leafOk cs.length i = false) : ept r b cs i = 0 := by unfold ept; rw [h, Bool.and_false]; rfl
theorem ept_yes {r b : Int} {cs : List Cor} {i : Int} (h : vk r b cs = true) (hi : leafOk cs.length i = true) : ept r b cs i = (lf (r, b) cs i.toNat).2 := by unfold ept; rw [h, hi]; rfl
theorem ept_wf {r b : Int} (hb : (Lit.int .i64 b).wf = true) (cs : List Cor) (i : Int) : (Lit.int .i64 (ept r b cs i)).wf = true := by
  unfold ept
  split
  · exact lf_wf2 hb _ _
  · decide

theorem node_bit (w : World) (x1 x2 : Int) : (Instr.field 44 (.agg #[.int .i64 x1, .int .i64 x2]) 1).run Try.prog w = .ok (.int .i64 x2) w := by
  have p := run_part_plain (P := Try.prog) w (e := 3) (by kernel_rfl) (show (#[.int .i64 x1, .int .i64 x2] : Array Value)[1]? = some (.int .i64 x2) from rfl)
  simp [Instr.field, run_underlying Try.underlying44, asAgg, p]

set_option maxHeartbeats 2000000 in
/-- pointKey.bitAt -/
theorem bitAt_any {l : Nat} {w : World} {e0 : TypeId} {a : Option Addr} {cap I : Nat} {cs : List Cor} {r b : Int} (h : (sliceT e0 tyCorrection).rd l w [.slice a cs.length cap] cs) (hl : l ≤ w.heap.size) (hr : (Lit.int .i64 r).wf = true) (hb : (Lit.int .i64 b).wf = true) (hn : cs.length ≤ 6) (hI : I ≤ 63) :
    Calls Try.prog 28 #[.agg #[.int .i64 r, .int .i64 b, .slice a cs.length cap], .int .i64 (I : Int)] w fun e w' => e = .returned (.int .i64 (lf (r, b) cs I).2) ∧ Below w.heap.size w w' := by
  obtain ⟨⟨x1, x2⟩, hx⟩ : ∃ x, x = lf (r, b) cs I := ⟨_, rfl⟩
  rw [← hx]
  have HX := Lib.hid hx
  have HR := Lib.hid hr
  have HBi := Lib.hid hb
  have HN := Lib.hid hn
  have HB := Lib.hid ((Below.refl w.heap.size w).alloc (Nat.le_refl _) (.cells #[.int .i64 r, .int .i64 b, .slice a cs.length cap] 57))
  have H := Lib.hid ((sliceT e0 tyCorrection).behind h (HB.out.mono hl))
  clear h hr hb hn hx
  go_enter Try.func28, Try.ntmps28
  go_wp2_with fail
  refine (leaf_any H.out (Nat.le_trans hl HB.out.size) HR.out HBi.out HN.out hI).mono ?_
  rw [← HX.out]
  rintro e w1 ⟨rfl, hb⟩
  replace HB := Lib.hid (HB.out.trans (hb.mono HB.out.size))
  clear hb
  have hnb := fun w => node_bit w x1 x2
  go_wp2_with fail
  go_ret
  exact ⟨rfl, HB.out⟩

end Go.Proofs.Ytaekjnacigicoaa
