/- Chapter 14's contract in the words of the exact laws: ReceiveFromMailbox. Conditions: the package variable errors.errorType holds the handle of the type 'error', as the rows list it. -/
import Derived.Test.YtbimihljaalllaaDoorMb7
import Derived.Test.YtbimihljaalllaaDoorHp14
import Derived.Test.YtbimihljaalllaaDoorBaX
import Derived.LaidLaws
import Derived.LaidHandle
import Derived.Stop.Joined
namespace Go.Proofs.YtbimihljaalllaaDoor
open Go Go.RowKit
set_option linter.unusedVariables false
attribute [local irreducible] kh kid

theorem ev_et : Tryd.prog.globalNamed "errors.errorType" = some 0 := by kernel_rfl
theorem ev_rt : (Tryd.prog.cutTypes.find? (·.1 == "internal/reflectlite.rtype")).map (·.2) = some 110 := by kernel_rfl
theorem ev_one : ((List.range 153).filter fun t => Tryd.prog.rowNamed t [101, 114, 114, 111, 114]) = [66] := by kernel_rfl
theorem ev_size : Tryd.prog.types.size = 153 := by kernel_rfl
/-- What the condition gives a walk: the variable's one cell. -/
theorem gv_of_laid {W : World} (h : laidMetH Tryd.prog [("errors.errorType", Rows.laid_errors_errorType)] W) : GV W := by
  have h' : laidMet Tryd.prog [] W ∧ handlesMet Tryd.prog [("errors.errorType", Rows.laid_errors_errorType)] W := h
  obtain ⟨name, u, ty, e1, e2, e3, e4, e5⟩ := h'.2 _ (List.mem_singleton.2 rfl)
  have en : name = [101, 114, 114, 111, 114] := (Option.some.inj e1).symm
  subst en
  obtain rfl := Option.some.inj (ev_rt.symm.trans e2)
  have hm : ty ∈ (List.range 153).filter fun t => Tryd.prog.rowNamed t [101, 114, 114, 111, 114] := List.mem_filter.2 ⟨List.mem_range.2 (by rw [← ev_size]; exact e3), e4⟩
  rw [ev_one] at hm
  obtain rfl := List.mem_singleton.1 hm
  have hh : typeHandle Tryd.prog 66 = .pointer (some ⟨1, 66, none⟩) := by kernel_rfl
  rw [hh] at e5
  unfold GV
  simpa using World.var?_cell ev_et e5 0

section
variable {l : Nat} {w : World} {c : List Value} {x : VMailbox}
theorem spec_rv_t {e : TypeId} {l2 : Nat} {v : Value} {zs : List Int} {d : Int} (h : tyMailbox.rd l w c x) (hl : l ≤ w.heap.size) (h' : (sliceT e u8T).rd l2 w [v] zs) (hl2 : l2 ≤ w.heap.size) (hd : (Lit.int .i64 d).wf = true) : Calls Tryd.prog 34 #[.agg c.toArray, .int .i64 d, v] w fun e w' => ∃ (c' : List Value) (v' : Value) (F1 F2 : Nat → Prop), e = .returned (.tuple #[.agg c'.toArray, v', .bool (rvok x.1 x.2.1 x.2.2 d zs)]) ∧ tyMailbox.own F1 w' c' (x.1, x.2.1, rvR x.1 x.2.1 x.2.2 d zs) ∧ (sliceT 5 u8T).own F2 w' [v'] (rvL x.1 x.2.1 x.2.2 d zs) ∧ (∀ b, F1 b → w.heap.size ≤ b ∧ b < w'.heap.size) ∧ (∀ b, F2 b → w.heap.size ≤ b ∧ b < w'.heap.size) ∧ (∀ b, F1 b → ¬ F2 b) ∧ Below w.heap.size w w' := by
  obtain ⟨rfl, h0, h1, h2⟩ := rd_Mailbox h
  refine (spec_rv (rd_of_sl h') hl2 h0 h1 h2 hd).mono ?_
  rintro e w' ⟨v', he, hO, hb⟩
  exact ⟨_, v', fun _ => False, ival w.heap.size w'.heap.size, he, own_mkMailbox (x := (x.1, x.2.1, rvR x.1 x.2.1 x.2.2 d zs)) h0 h1 (rvR_bound h2), slo_of_own hO (fun b h1 h2 => ⟨h1, h2⟩), fun b h => h.elim, fun b h => h, fun b h => h.elim, hb⟩
theorem impl_rv_t {e : TypeId} {l2 : Nat} {v : Value} {zs : List Int} {d : Int} (h : tyMailbox.rd l w c x) (hl : l ≤ w.heap.size) (h' : (sliceT e u8T).rd l2 w [v] zs) (hl2 : l2 ≤ w.heap.size) (hd : (Lit.int .i64 d).wf = true) (hg : GV w) : Calls Tryd.prog 28 #[.agg c.toArray, .int .i64 d, v] w fun e w' => ∃ (c' : List Value) (v' : Value) (F1 F2 : Nat → Prop), e = .returned (.tuple #[.agg c'.toArray, v', .bool (rvok x.1 x.2.1 x.2.2 d zs)]) ∧ tyMailbox.own F1 w' c' (x.1, x.2.1, rvR x.1 x.2.1 x.2.2 d zs) ∧ (sliceT 5 u8T).own F2 w' [v'] (rvL x.1 x.2.1 x.2.2 d zs) ∧ (∀ b, F1 b → w.heap.size ≤ b ∧ b < w'.heap.size) ∧ (∀ b, F2 b → w.heap.size ≤ b ∧ b < w'.heap.size) ∧ (∀ b, F1 b → ¬ F2 b) ∧ Below w.heap.size w w' := by
  obtain ⟨rfl, h0, h1, h2⟩ := rd_Mailbox h
  refine (impl_rv (rd_of_sl h') hl2 h0 h1 h2 hd hg).mono ?_
  rintro e w' ⟨v', he, hO, hb⟩
  exact ⟨_, v', fun _ => False, ival w.heap.size w'.heap.size, he, own_mkMailbox (x := (x.1, x.2.1, rvR x.1 x.2.1 x.2.2 d zs)) h0 h1 (rvR_bound h2), slo_of_own hO (fun b h1 h2 => ⟨h1, h2⟩), fun b h => h.elim, fun b h => h, fun b h => h.elim, hb⟩
end

theorem vb_bm {e : TypeId} {xs : List Int} (h : xs.length ≤ 1048576) : (sliceT e u8T).vcnt xs ≤ 1099511627776 := by
  have e1 : (sliceT e u8T).vcnt xs = xs.length := cntL_int _ _ _ _
  rw [e1]; omega
theorem vb_recv (k s r d : Int) (b : List Int) : (sliceT 5 u8T).vcnt (rvL k s r d b) ≤ 1099511627776 := vb_bm (by have := rvL_len k s r d b; omega)

end Go.Proofs.YtbimihljaalllaaDoor
