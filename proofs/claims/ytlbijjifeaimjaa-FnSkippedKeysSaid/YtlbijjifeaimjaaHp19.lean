/- The laws' helpers on SkippedKey, []SkippedKey, Ratchet: size, copy, equality, marks. No conditions but a size that a machine holds. -/
import Derived.Test.YtlbijjifeaimjaaBaX
import Derived.Test.YtlbijjifeaimjaaHeldL
import Derived.Deep.RegionHeld3
import Derived.Deep.DeepCutAuto
namespace Go.Proofs.Ytlbijjifeaimjaa
open Go Go.RowKit
set_option linter.unusedVariables false

abbrev VSkippedKey := Int × Int
def tySkippedKey : Ty VSkippedKey := iC i64T

theorem rd_SkippedKey {l : Nat} {w : World} {cs : List Value} {x : VSkippedKey} (h : tySkippedKey.rd l w cs x) : cs = [.int .i64 x.1, .int .i64 x.2] ∧ (Lit.int .i64 x.1).wf = true ∧ (Lit.int .i64 x.2).wf = true := by
  obtain ⟨r0, rfl, h0, h⟩ := rd_int h
  obtain ⟨rfl, h1⟩ := h
  exact ⟨rfl, h0, h1⟩
theorem own_SkippedKey {F : Nat → Prop} {w : World} {cs : List Value} {x : VSkippedKey} (h : tySkippedKey.own F w cs x) : cs = [.int .i64 x.1, .int .i64 x.2] ∧ (Lit.int .i64 x.1).wf = true ∧ (Lit.int .i64 x.2).wf = true := by
  obtain ⟨r0, rfl, h0, h⟩ := own_int h
  obtain ⟨rfl, h1⟩ := h
  exact ⟨rfl, h0, h1⟩
theorem rd_mkSkippedKey {l : Nat} {w : World} {x : VSkippedKey}  (h0 : (Lit.int .i64 x.1).wf = true) (h1 : (Lit.int .i64 x.2).wf = true) : tySkippedKey.rd l w [.int .i64 x.1, .int .i64 x.2] x :=
  int_rd h0 (⟨rfl, h1⟩)
theorem own_mkSkippedKey {F : Nat → Prop} {w : World} {x : VSkippedKey}  (h0 : (Lit.int .i64 x.1).wf = true) (h1 : (Lit.int .i64 x.2).wf = true)   : tySkippedKey.own F w [.int .i64 x.1, .int .i64 x.2] x := by
  exact int_own h0 (⟨rfl, h1⟩)

theorem infoSkippedKey : (Try.prog.info? 40).map (fun i => (i.zero, i.size, i.bytes)) = some (some (.agg #[.int .i64 0, .int .i64 0]), 2, 16) := by kernel_rfl

abbrev VRatchet := Int × Int × (List VSkippedKey)
def tyRatchet : Ty VRatchet := iC (iC (sliceT 40 tySkippedKey))

theorem rd_Ratchet {l : Nat} {w : World} {cs : List Value} {x : VRatchet} (h : tyRatchet.rd l w cs x) : ∃ (a2 : Option Addr) (c2 : Nat), cs = [.int .i64 x.1, .int .i64 x.2.1, .slice a2 x.2.2.length c2] ∧ (Lit.int .i64 x.1).wf = true ∧ (Lit.int .i64 x.2.1).wf = true ∧ (sliceT 40 tySkippedKey).rd l w [.slice a2 x.2.2.length c2] x.2.2 := by
  obtain ⟨r0, rfl, h0, h⟩ := rd_int h
  obtain ⟨r1, rfl, h1, h⟩ := rd_int h
  obtain ⟨a2, c2, rfl, _⟩ := sl_open h
  have h2 := h
  exact ⟨a2, c2, rfl, h0, h1, h2⟩
theorem own_Ratchet {F : Nat → Prop} {w : World} {cs : List Value} {x : VRatchet} (h : tyRatchet.own F w cs x) : ∃ (a2 : Option Addr) (c2 : Nat) (F2 : Nat → Prop), cs = [.int .i64 x.1, .int .i64 x.2.1, .slice a2 x.2.2.length c2] ∧ (Lit.int .i64 x.1).wf = true ∧ (Lit.int .i64 x.2.1).wf = true ∧ (sliceT 40 tySkippedKey).own F2 w [.slice a2 x.2.2.length c2] x.2.2 ∧ (∀ b, F2 b → F b) := by
  obtain ⟨r0, rfl, h0, h⟩ := own_int h
  obtain ⟨r1, rfl, h1, h⟩ := own_int h
  obtain ⟨a2, c2, rfl, _⟩ := slo_open h
  have h2 := h
  exact ⟨a2, c2, F, rfl, h0, h1, h2, fun b hb => hb⟩
theorem rd_mkRatchet {l : Nat} {w : World} {x : VRatchet} {a2 : Option Addr} {c2 : Nat} (h0 : (Lit.int .i64 x.1).wf = true) (h1 : (Lit.int .i64 x.2.1).wf = true) (h2 : (sliceT 40 tySkippedKey).rd l w [.slice a2 x.2.2.length c2] x.2.2) : tyRatchet.rd l w [.int .i64 x.1, .int .i64 x.2.1, .slice a2 x.2.2.length c2] x :=
  int_rd h0 (int_rd h1 (h2))
theorem own_mkRatchet {F : Nat → Prop} {w : World} {x : VRatchet} {a2 : Option Addr} {c2 : Nat} {F2 : Nat → Prop} (h0 : (Lit.int .i64 x.1).wf = true) (h1 : (Lit.int .i64 x.2.1).wf = true) (h2 : (sliceT 40 tySkippedKey).own F2 w [.slice a2 x.2.2.length c2] x.2.2) (s2 : ∀ b, F2 b → F b)  : tyRatchet.own F w [.int .i64 x.1, .int .i64 x.2.1, .slice a2 x.2.2.length c2] x := by
  exact tyRatchet.omono (F := _) (int_own h0 (int_own h1 (h2))) (fun b hb => s2 b hb)

end Go.Proofs.Ytlbijjifeaimjaa
