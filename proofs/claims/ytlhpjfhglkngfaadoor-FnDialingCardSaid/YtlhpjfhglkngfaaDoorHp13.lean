/- The laws' helpers on Plain: size, copy, equality, marks. No conditions but a size that a machine holds. -/
import Derived.Test.YtlhpjfhglkngfaaDoorBaX
import Derived.Test.YtlhpjfhglkngfaaDoorHeldL
import Derived.Deep.RegionHeld3
import Derived.Deep.DeepCutAuto
namespace Go.Proofs.YtlhpjfhglkngfaaDoor
open Go Go.RowKit
set_option linter.unusedVariables false

abbrev VPlain := Int × (List Int)
def tyPlain : Ty VPlain := iC (sliceT 5 u8T)

theorem rd_Plain {l : Nat} {w : World} {cs : List Value} {x : VPlain} (h : tyPlain.rd l w cs x) : ∃ (a1 : Option Addr) (c1 : Nat), cs = [.int .i64 x.1, .slice a1 x.2.length c1] ∧ (Lit.int .i64 x.1).wf = true ∧ (sliceT 5 u8T).rd l w [.slice a1 x.2.length c1] x.2 := by
  obtain ⟨r0, rfl, h0, h⟩ := rd_int h
  obtain ⟨a1, c1, rfl, _⟩ := sl_open h
  have h1 := h
  exact ⟨a1, c1, rfl, h0, h1⟩
theorem own_Plain {F : Nat → Prop} {w : World} {cs : List Value} {x : VPlain} (h : tyPlain.own F w cs x) : ∃ (a1 : Option Addr) (c1 : Nat) (F1 : Nat → Prop), cs = [.int .i64 x.1, .slice a1 x.2.length c1] ∧ (Lit.int .i64 x.1).wf = true ∧ (sliceT 5 u8T).own F1 w [.slice a1 x.2.length c1] x.2 ∧ (∀ b, F1 b → F b) := by
  obtain ⟨r0, rfl, h0, h⟩ := own_int h
  obtain ⟨a1, c1, rfl, _⟩ := slo_open h
  have h1 := h
  exact ⟨a1, c1, F, rfl, h0, h1, fun b hb => hb⟩
theorem rd_mkPlain {l : Nat} {w : World} {x : VPlain} {a1 : Option Addr} {c1 : Nat} (h0 : (Lit.int .i64 x.1).wf = true) (h1 : (sliceT 5 u8T).rd l w [.slice a1 x.2.length c1] x.2) : tyPlain.rd l w [.int .i64 x.1, .slice a1 x.2.length c1] x :=
  int_rd h0 (h1)
theorem own_mkPlain {F : Nat → Prop} {w : World} {x : VPlain} {a1 : Option Addr} {c1 : Nat} {F1 : Nat → Prop} (h0 : (Lit.int .i64 x.1).wf = true) (h1 : (sliceT 5 u8T).own F1 w [.slice a1 x.2.length c1] x.2) (s1 : ∀ b, F1 b → F b)  : tyPlain.own F w [.int .i64 x.1, .slice a1 x.2.length c1] x := by
  exact tyPlain.omono (F := _) (int_own h0 (h1)) (fun b hb => s1 b hb)

end Go.Proofs.YtlhpjfhglkngfaaDoor
