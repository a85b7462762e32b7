/- Chapter 13's contracts in the words of the exact laws: OpenCell, FindCounter. Conditions: the package variable errors.errorType holds the handle of the type 'error', as the rows list it. -/
import Derived.Test.YtlhpjfhglkngfaaDoorCl5
import Derived.Test.YtlhpjfhglkngfaaDoorCl6
import Derived.Test.YtlhpjfhglkngfaaDoorHp13
import Derived.Test.YtlhpjfhglkngfaaDoorBaX
import Derived.LaidLaws
import Derived.LaidHandle
import Derived.Stop.Joined
namespace Go.Proofs.YtlhpjfhglkngfaaDoor
open Go Go.RowKit
set_option linter.unusedVariables false
attribute [local irreducible] kh kid

theorem ev_et : Tryd.prog.globalNamed "errors.errorType" = some 1 := by kernel_rfl
theorem ev_rt : (Tryd.prog.cutTypes.find? (·.1 == "internal/reflectlite.rtype")).map (·.2) = some 99 := by kernel_rfl
theorem ev_one : ((List.range 160).filter fun t => Tryd.prog.rowNamed t [101, 114, 114, 111, 114]) = [55] := by kernel_rfl
theorem ev_size : Tryd.prog.types.size = 160 := by kernel_rfl
/-- What the condition gives a walk: the variable's one cell. -/
theorem gv_of_laid {W : World} (h : laidMetH Tryd.prog [("errors.errorType", Rows.laid_errors_errorType)] W) : GV W := by
  have h' : laidMet Tryd.prog [] W ∧ handlesMet Tryd.prog [("errors.errorType", Rows.laid_errors_errorType)] W := h
  obtain ⟨name, u, ty, e1, e2, e3, e4, e5⟩ := h'.2 _ (List.mem_singleton.2 rfl)
  have en : name = [101, 114, 114, 111, 114] := (Option.some.inj e1).symm
  subst en
  obtain rfl := Option.some.inj (ev_rt.symm.trans e2)
  have hm : ty ∈ (List.range 160).filter fun t => Tryd.prog.rowNamed t [101, 114, 114, 111, 114] := List.mem_filter.2 ⟨List.mem_range.2 (by rw [← ev_size]; exact e3), e4⟩
  rw [ev_one] at hm
  obtain rfl := List.mem_singleton.1 hm
  have hh : typeHandle Tryd.prog 55 = .pointer (some ⟨2, 55, none⟩) := by kernel_rfl
  rw [hh] at e5
  unfold GV
  simpa using World.var?_cell ev_et e5 0

section
variable {l : Nat} {w : World} {e : TypeId} {v : Value} {zs : List Int}
theorem spec_oc_t {k n : Int} (h : (sliceT e u8T).rd l w [v] zs) (hl : l ≤ w.heap.size) (hk : (Lit.int .i64 k).wf = true) (hn : (Lit.int .i64 n).wf = true) : Calls Tryd.prog 41 #[.int .i64 k, .int .i64 n, v] w fun e w' => ∃ (c : List Value) (F : Nat → Prop), e = .returned (.tuple #[.agg c.toArray, .bool (ook k n zs)]) ∧ tyPlain.own F w' c (ocK k n zs, ocB k n zs) ∧ (∀ b, F b → w.heap.size ≤ b ∧ b < w'.heap.size) ∧ Below w.heap.size w w' := by
  refine (spec_oc (rd_of_sl h) hl hk hn).mono ?_
  rintro e w' ⟨v', he, hO, hb⟩
  obtain ⟨a, c, rfl, _⟩ := hO.open
  have h1 := ocK_bound k n zs
  refine ⟨[.int .i64 (ocK k n zs), .slice a (ocB k n zs).length c], ival w.heap.size w'.heap.size, he, own_mkPlain (x := (ocK k n zs, ocB k n zs)) (wf_i64_of (by omega) (by omega)) (slo_of_own hO (fun b h1 h2 => ⟨h1, h2⟩)) (fun b h => h), fun b h => h, hb⟩
theorem impl_oc_t {k n : Int} (h : (sliceT e u8T).rd l w [v] zs) (hl : l ≤ w.heap.size) (hk : (Lit.int .i64 k).wf = true) (hn : (Lit.int .i64 n).wf = true) (hg : GV w) : Calls Tryd.prog 57 #[.int .i64 k, .int .i64 n, v] w fun e w' => ∃ (c : List Value) (F : Nat → Prop), e = .returned (.tuple #[.agg c.toArray, .bool (ook k n zs)]) ∧ tyPlain.own F w' c (ocK k n zs, ocB k n zs) ∧ (∀ b, F b → w.heap.size ≤ b ∧ b < w'.heap.size) ∧ Below w.heap.size w w' := by
  refine (impl_oc (rd_of_sl h) hl hk hn hg).mono ?_
  rintro e w' ⟨v', he, hO, hb⟩
  obtain ⟨a, c, rfl, _⟩ := hO.open
  have h1 := ocK_bound k n zs
  refine ⟨[.int .i64 (ocK k n zs), .slice a (ocB k n zs).length c], ival w.heap.size w'.heap.size, he, own_mkPlain (x := (ocK k n zs, ocB k n zs)) (wf_i64_of (by omega) (by omega)) (slo_of_own hO (fun b h1 h2 => ⟨h1, h2⟩)) (fun b h => h), fun b h => h, hb⟩
end

theorem vb_bs {e : TypeId} {xs : List Int} (h : xs.length ≤ 1048576) : (sliceT e u8T).vcnt xs ≤ 1099511627776 := by
  have e1 : (sliceT e u8T).vcnt xs = xs.length := cntL_int _ _ _ _
  rw [e1]; omega
theorem vb_open (k n : Int) (c : List Int) : tyPlain.vcnt (ocK k n c, ocB k n c) ≤ 1099511627776 := by
  show cntL u8T (ocB k n c) ≤ _
  have e : cntL u8T (ocB k n c) = (ocB k n c).length := cntL_int _ _ _ _
  have := ocB_len k n c
  rw [e]; omega

end Go.Proofs.YtlhpjfhglkngfaaDoor
