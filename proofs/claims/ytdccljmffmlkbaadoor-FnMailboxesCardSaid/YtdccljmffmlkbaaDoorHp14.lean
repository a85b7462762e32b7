/- The laws' helpers on Mailbox: size, copy, equality, marks. No conditions but a size that a machine holds. -/
import Derived.Test.YtdccljmffmlkbaaDoorBaX
import Derived.Test.YtdccljmffmlkbaaDoorHeldL
import Derived.Deep.RegionHeld3
import Derived.Deep.DeepCutAuto
namespace Go.Proofs.YtdccljmffmlkbaaDoor
open Go Go.RowKit
set_option linter.unusedVariables false

abbrev VMailbox := Int × Int × Int
def tyMailbox : Ty VMailbox := iC (iC i64T)

theorem rd_Mailbox {l : Nat} {w : World} {cs : List Value} {x : VMailbox} (h : tyMailbox.rd l w cs x) : cs = [.int .i64 x.1, .int .i64 x.2.1, .int .i64 x.2.2] ∧ (Lit.int .i64 x.1).wf = true ∧ (Lit.int .i64 x.2.1).wf = true ∧ (Lit.int .i64 x.2.2).wf = true := by
  obtain ⟨r0, rfl, h0, h⟩ := rd_int h
  obtain ⟨r1, rfl, h1, h⟩ := rd_int h
  obtain ⟨rfl, h2⟩ := h
  exact ⟨rfl, h0, h1, h2⟩
theorem own_Mailbox {F : Nat → Prop} {w : World} {cs : List Value} {x : VMailbox} (h : tyMailbox.own F w cs x) : cs = [.int .i64 x.1, .int .i64 x.2.1, .int .i64 x.2.2] ∧ (Lit.int .i64 x.1).wf = true ∧ (Lit.int .i64 x.2.1).wf = true ∧ (Lit.int .i64 x.2.2).wf = true := by
  obtain ⟨r0, rfl, h0, h⟩ := own_int h
  obtain ⟨r1, rfl, h1, h⟩ := own_int h
  obtain ⟨rfl, h2⟩ := h
  exact ⟨rfl, h0, h1, h2⟩
theorem rd_mkMailbox {l : Nat} {w : World} {x : VMailbox}  (h0 : (Lit.int .i64 x.1).wf = true) (h1 : (Lit.int .i64 x.2.1).wf = true) (h2 : (Lit.int .i64 x.2.2).wf = true) : tyMailbox.rd l w [.int .i64 x.1, .int .i64 x.2.1, .int .i64 x.2.2] x :=
  int_rd h0 (int_rd h1 (⟨rfl, h2⟩))
theorem own_mkMailbox {F : Nat → Prop} {w : World} {x : VMailbox}  (h0 : (Lit.int .i64 x.1).wf = true) (h1 : (Lit.int .i64 x.2.1).wf = true) (h2 : (Lit.int .i64 x.2.2).wf = true)   : tyMailbox.own F w [.int .i64 x.1, .int .i64 x.2.1, .int .i64 x.2.2] x := by
  exact int_own h0 (int_own h1 (⟨rfl, h2⟩))

end Go.Proofs.YtdccljmffmlkbaaDoor
