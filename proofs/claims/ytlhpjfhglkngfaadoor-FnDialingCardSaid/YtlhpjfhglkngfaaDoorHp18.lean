/- The laws' helpers on Identity: size, copy, equality, marks. No conditions but a size that a machine holds. -/
import Derived.Test.YtlhpjfhglkngfaaDoorBaX
import Derived.Test.YtlhpjfhglkngfaaDoorHeldL
import Derived.Deep.RegionHeld3
import Derived.Deep.DeepCutAuto
namespace Go.Proofs.YtlhpjfhglkngfaaDoor
open Go Go.RowKit
set_option linter.unusedVariables false

abbrev VIdentity := Int × Int
def tyIdentity : Ty VIdentity := iC i64T

theorem rd_Identity {l : Nat} {w : World} {cs : List Value} {x : VIdentity} (h : tyIdentity.rd l w cs x) : cs = [.int .i64 x.1, .int .i64 x.2] ∧ (Lit.int .i64 x.1).wf = true ∧ (Lit.int .i64 x.2).wf = true := by
  obtain ⟨r0, rfl, h0, h⟩ := rd_int h
  obtain ⟨rfl, h1⟩ := h
  exact ⟨rfl, h0, h1⟩
theorem own_Identity {F : Nat → Prop} {w : World} {cs : List Value} {x : VIdentity} (h : tyIdentity.own F w cs x) : cs = [.int .i64 x.1, .int .i64 x.2] ∧ (Lit.int .i64 x.1).wf = true ∧ (Lit.int .i64 x.2).wf = true := by
  obtain ⟨r0, rfl, h0, h⟩ := own_int h
  obtain ⟨rfl, h1⟩ := h
  exact ⟨rfl, h0, h1⟩
theorem rd_mkIdentity {l : Nat} {w : World} {x : VIdentity}  (h0 : (Lit.int .i64 x.1).wf = true) (h1 : (Lit.int .i64 x.2).wf = true) : tyIdentity.rd l w [.int .i64 x.1, .int .i64 x.2] x :=
  int_rd h0 (⟨rfl, h1⟩)
theorem own_mkIdentity {F : Nat → Prop} {w : World} {x : VIdentity}  (h0 : (Lit.int .i64 x.1).wf = true) (h1 : (Lit.int .i64 x.2).wf = true)   : tyIdentity.own F w [.int .i64 x.1, .int .i64 x.2] x := by
  exact int_own h0 (⟨rfl, h1⟩)

set_option maxRecDepth 20000 in
set_option maxHeartbeats 2000000 in
/-- laws.toIdentity -/
theorem toIdentity_any {l : Nat} {w : World} {cs : List Value} {x : VIdentity} (h : tyIdentity.rd l w cs x) (hl : l ≤ w.heap.size) (hn : tyIdentity.tot x ≤ 1073741824) :
    Calls Tryd.prog 17 #[.agg cs.toArray] w fun e w' => ∃ ds, e = .returned (.agg ds.toArray) ∧ tyIdentity.own (ival w.heap.size w'.heap.size) w' ds x ∧ Below w.heap.size w w' := by
  obtain ⟨rfl, h0, h1⟩ := rd_Identity h
  have H0 := Lib.hid h0
  have H1 := Lib.hid h1
  clear h h0 h1
  go_enter Tryd.func17, Tryd.ntmps17
  go_wp2_with fail
  exact bodyPost_ret (v := .agg #[.int .i64 x.1, .int .i64 x.2]) (by simp [results, Tryd.results17, go_sem]) rfl ⟨_, rfl, own_mkIdentity H0.out H1.out, (((Below.refl _ _).alloc (Nat.le_refl _) _).alloc (by simp) _).alloc (by simp; omega) _⟩

end Go.Proofs.YtlhpjfhglkngfaaDoor
