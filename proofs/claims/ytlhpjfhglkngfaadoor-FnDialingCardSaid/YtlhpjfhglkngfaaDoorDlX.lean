/- Chapter 18's contracts in the words of the exact laws: OpenInvitation. Conditions: the package variables errors.errorType and impl.errNoInvitation, as the rows list them. -/
import Derived.Test.YtlhpjfhglkngfaaDoorDl3
import Derived.Test.YtlhpjfhglkngfaaDoorDl4
import Derived.Test.YtlhpjfhglkngfaaDoorClX
import Derived.Test.YtlhpjfhglkngfaaDoorHp18
import Derived.Test.YtlhpjfhglkngfaaDoorBaX
import Derived.Stop.LaidErr
namespace Go.Proofs.YtlhpjfhglkngfaaDoor
open Go Go.RowKit
set_option linter.unusedVariables false
set_option maxRecDepth 20000
attribute [local irreducible] kh kid pwm tcm pw

theorem sn_glob : Tryd.prog.globalNamed "loop.example/g00516/impl.errNoInvitation" = some 0 := by kernel_rfl
theorem sn_type : (Tryd.prog.globals[0]?).map (·.type) = some 55 := by kernel_rfl
theorem sn_cells : Tryd.prog.cellsOf 148 = 1 := by kernel_rfl
theorem sn_str : Tryd.prog.cellsOf 9 = 1 := by kernel_rfl
theorem sn_star : "*" ++ "errors.errorString" = "*errors.errorString" := by decide
theorem sn_row (u : TypeId) (h : Tryd.prog.typeName? 3 u = some "*errors.errorString") : u = 126 :=
  typeName_ptr_named (nm := "errors.errorString") (by rw [sn_star]; kernel_rfl) (by kernel_rfl) (by decide) u (by rw [sn_star]; exact h)

/-- Both package variables. -/
def GVN (w : World) : Prop := GV w ∧ ∃ a, NV a w
theorem GVN.next {w w' : World} (h : GVN w) (hb : Below w.heap.size w w') : GVN w' := by
  obtain ⟨h1, a, h2⟩ := h
  exact ⟨h1.next hb, a, h2.next hb⟩
theorem gvn_of_laid {W : World} (h : laidMetH Tryd.prog [("errors.errorType", Rows.laid_errors_errorType), ("loop.example/g00516/impl.errNoInvitation", Rows.laid_loop_example_g00516_impl_errNoInvitation)] W) : GVN W := by
  have h' : laidMet Tryd.prog [("loop.example/g00516/impl.errNoInvitation", Rows.laid_loop_example_g00516_impl_errNoInvitation)] W ∧ handlesMet Tryd.prog [("errors.errorType", Rows.laid_errors_errorType)] W := h
  have g : laidMetH Tryd.prog [("errors.errorType", Rows.laid_errors_errorType)] W := show laidMet Tryd.prog [] W ∧ handlesMet Tryd.prog [("errors.errorType", Rows.laid_errors_errorType)] W from ⟨h'.1.tail, h'.2⟩
  refine ⟨gv_of_laid g, ?_⟩
  obtain ⟨a, s, hv, _⟩ := laid_sentinel h'.1 sn_glob sn_type Tryd.underlying55 sn_row Tryd.underlying126 Tryd.underlying148 rfl rfl Tryd.underlying9 sn_cells sn_str
  exact ⟨a, by unfold NV; simpa using World.var?_cell sn_glob hv 0⟩

section
variable {l1 l2 l3 : Nat} {w : World} {e1 e2 : TypeId} {u v : Value} {cs zs : List Int} {c : List Value} {x : VIdentity} {r : Int}
theorem spec_opi_t (h : tyIdentity.rd l1 w c x) (hl : l1 ≤ w.heap.size) (hu : (sliceT e1 i64T).rd l2 w [u] cs) (hl2 : l2 ≤ w.heap.size) (hv : (sliceT e2 u8T).rd l3 w [v] zs) (hl3 : l3 ≤ w.heap.size) (hr : (Lit.int .i64 r).wf = true) : Calls Tryd.prog 16 #[.agg c.toArray, u, .int .i64 r, v] w fun e w' => e = .returned (.tuple #[.int .i64 (opI x.1 x.2 cs r zs), .int .i64 (opK x.1 x.2 cs r zs), .bool (opB x.1 x.2 cs r zs)]) ∧ Below w.heap.size w w' := by
  obtain ⟨rfl, h0, h1⟩ := rd_Identity h
  exact spec_opi (rd_of_sl hu) (rd_of_sl hv) hl2 hl3 h0 h1 hr
theorem impl_opi_t (h : tyIdentity.rd l1 w c x) (hl : l1 ≤ w.heap.size) (hu : (sliceT e1 i64T).rd l2 w [u] cs) (hl2 : l2 ≤ w.heap.size) (hv : (sliceT e2 u8T).rd l3 w [v] zs) (hl3 : l3 ≤ w.heap.size) (hr : (Lit.int .i64 r).wf = true) (hg : GVN w) : Calls Tryd.prog 10 #[.agg c.toArray, u, .int .i64 r, v] w fun e w' => e = .returned (.tuple #[.int .i64 (opI x.1 x.2 cs r zs), .int .i64 (opK x.1 x.2 cs r zs), .bool (opB x.1 x.2 cs r zs)]) ∧ Below w.heap.size w w' := by
  obtain ⟨rfl, h0, h1⟩ := rd_Identity h
  obtain ⟨hg1, a, hg2⟩ := hg
  exact impl_opi (rd_of_sl hu) (rd_of_sl hv) hl2 hl3 h0 h1 hr hg1 hg2
end

theorem vb_idx (x : VIdentity) : tyIdentity.vcnt x ≤ 1099511627776 := by
  have e1 : tyIdentity.vcnt x = 0 := rfl
  omega
theorem vb_bx {e : TypeId} {xs : List Int} (h : xs.length ≤ 1048576) : (sliceT e u8T).vcnt xs ≤ 1099511627776 := by
  have e1 : (sliceT e u8T).vcnt xs = xs.length := cntL_int _ _ _ _
  rw [e1]; omega
theorem vb_ix {e : TypeId} {xs : List Int} (h : xs.length ≤ 1048576) : (sliceT e i64T).vcnt xs ≤ 1099511627776 := by
  have e1 : (sliceT e i64T).vcnt xs = xs.length := cntL_int _ _ _ _
  rw [e1]; omega

end Go.Proofs.YtlhpjfhglkngfaaDoor
