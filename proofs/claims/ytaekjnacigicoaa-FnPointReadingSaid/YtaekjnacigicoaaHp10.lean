/- The laws' helpers on Correction, []Correction, PointKey: size, copy, equality, marks. No conditions but a size that a machine holds. -/
import Derived.Test.YtaekjnacigicoaaBbT
import Derived.Test.YtaekjnacigicoaaHeldL
import Derived.Deep.RegionHeld3
import Derived.Deep.DeepCutAuto
namespace Go.Proofs.Ytaekjnacigicoaa
open Go Go.RowKit
set_option linter.unusedVariables false

abbrev VCorrection := Int × Int × Int
def tyCorrection : Ty VCorrection := iC (iC i64T)

theorem rd_Correction {l : Nat} {w : World} {cs : List Value} {x : VCorrection} (h : tyCorrection.rd l w cs x) : cs = [.int .i64 x.1, .int .i64 x.2.1, .int .i64 x.2.2] ∧ (Lit.int .i64 x.1).wf = true ∧ (Lit.int .i64 x.2.1).wf = true ∧ (Lit.int .i64 x.2.2).wf = true := by
  obtain ⟨r0, rfl, h0, h⟩ := rd_int h
  obtain ⟨r1, rfl, h1, h⟩ := rd_int h
  obtain ⟨rfl, h2⟩ := h
  exact ⟨rfl, h0, h1, h2⟩
theorem own_Correction {F : Nat → Prop} {w : World} {cs : List Value} {x : VCorrection} (h : tyCorrection.own F w cs x) : cs = [.int .i64 x.1, .int .i64 x.2.1, .int .i64 x.2.2] ∧ (Lit.int .i64 x.1).wf = true ∧ (Lit.int .i64 x.2.1).wf = true ∧ (Lit.int .i64 x.2.2).wf = true := by
  obtain ⟨r0, rfl, h0, h⟩ := own_int h
  obtain ⟨r1, rfl, h1, h⟩ := own_int h
  obtain ⟨rfl, h2⟩ := h
  exact ⟨rfl, h0, h1, h2⟩
theorem rd_mkCorrection {l : Nat} {w : World} {x : VCorrection}  (h0 : (Lit.int .i64 x.1).wf = true) (h1 : (Lit.int .i64 x.2.1).wf = true) (h2 : (Lit.int .i64 x.2.2).wf = true) : tyCorrection.rd l w [.int .i64 x.1, .int .i64 x.2.1, .int .i64 x.2.2] x :=
  int_rd h0 (int_rd h1 (⟨rfl, h2⟩))
theorem own_mkCorrection {F : Nat → Prop} {w : World} {x : VCorrection}  (h0 : (Lit.int .i64 x.1).wf = true) (h1 : (Lit.int .i64 x.2.1).wf = true) (h2 : (Lit.int .i64 x.2.2).wf = true)   : tyCorrection.own F w [.int .i64 x.1, .int .i64 x.2.1, .int .i64 x.2.2] x := by
  exact int_own h0 (int_own h1 (⟨rfl, h2⟩))

theorem infoCorrection : (Try.prog.info? 47).map (fun i => (i.zero, i.size, i.bytes)) = some (some (.agg #[.int .i64 0, .int .i64 0, .int .i64 0]), 3, 24) := by kernel_rfl

abbrev VPointKey := Int × Int × (List VCorrection)
def tyPointKey : Ty VPointKey := iC (iC (sliceT 47 tyCorrection))

theorem rd_PointKey {l : Nat} {w : World} {cs : List Value} {x : VPointKey} (h : tyPointKey.rd l w cs x) : ∃ (a2 : Option Addr) (c2 : Nat), cs = [.int .i64 x.1, .int .i64 x.2.1, .slice a2 x.2.2.length c2] ∧ (Lit.int .i64 x.1).wf = true ∧ (Lit.int .i64 x.2.1).wf = true ∧ (sliceT 47 tyCorrection).rd l w [.slice a2 x.2.2.length c2] x.2.2 := by
  obtain ⟨r0, rfl, h0, h⟩ := rd_int h
  obtain ⟨r1, rfl, h1, h⟩ := rd_int h
  obtain ⟨a2, c2, rfl, _⟩ := sl_open h
  have h2 := h
  exact ⟨a2, c2, rfl, h0, h1, h2⟩
theorem own_PointKey {F : Nat → Prop} {w : World} {cs : List Value} {x : VPointKey} (h : tyPointKey.own F w cs x) : ∃ (a2 : Option Addr) (c2 : Nat) (F2 : Nat → Prop), cs = [.int .i64 x.1, .int .i64 x.2.1, .slice a2 x.2.2.length c2] ∧ (Lit.int .i64 x.1).wf = true ∧ (Lit.int .i64 x.2.1).wf = true ∧ (sliceT 47 tyCorrection).own F2 w [.slice a2 x.2.2.length c2] x.2.2 ∧ (∀ b, F2 b → F b) := by
  obtain ⟨r0, rfl, h0, h⟩ := own_int h
  obtain ⟨r1, rfl, h1, h⟩ := own_int h
  obtain ⟨a2, c2, rfl, _⟩ := slo_open h
  have h2 := h
  exact ⟨a2, c2, F, rfl, h0, h1, h2, fun b hb => hb⟩
theorem rd_mkPointKey {l : Nat} {w : World} {x : VPointKey} {a2 : Option Addr} {c2 : Nat} (h0 : (Lit.int .i64 x.1).wf = true) (h1 : (Lit.int .i64 x.2.1).wf = true) (h2 : (sliceT 47 tyCorrection).rd l w [.slice a2 x.2.2.length c2] x.2.2) : tyPointKey.rd l w [.int .i64 x.1, .int .i64 x.2.1, .slice a2 x.2.2.length c2] x :=
  int_rd h0 (int_rd h1 (h2))
theorem own_mkPointKey {F : Nat → Prop} {w : World} {x : VPointKey} {a2 : Option Addr} {c2 : Nat} {F2 : Nat → Prop} (h0 : (Lit.int .i64 x.1).wf = true) (h1 : (Lit.int .i64 x.2.1).wf = true) (h2 : (sliceT 47 tyCorrection).own F2 w [.slice a2 x.2.2.length c2] x.2.2) (s2 : ∀ b, F2 b → F b)  : tyPointKey.own F w [.int .i64 x.1, .int .i64 x.2.1, .slice a2 x.2.2.length c2] x := by
  exact tyPointKey.omono (F := _) (int_own h0 (int_own h1 (h2))) (fun b hb => s2 b hb)

end Go.Proofs.Ytaekjnacigicoaa
