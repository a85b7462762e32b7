/- The laws' helpers on Mailbox: size, copy, equality, marks. No conditions but a size that a machine holds. -/
import Derived.Test.YtbimihljaalllaaBaX
import Derived.Test.YtbimihljaalllaaHeldL
import Derived.Deep.RegionHeld3
import Derived.Deep.DeepCutAuto
namespace Go.Proofs.Ytbimihljaalllaa
open Go Go.RowKit
set_option linter.unusedVariables false

abbrev VMailbox := Int × Int × Int
def tyMailbox : Ty VMailbox := iC (iC i64T)

theorem rd_Mailbox {l : Nat} {w : World} {cs : List Value} {x : VMailbox} (h : tyMailbox.rd l w cs x) : cs = [.int .i64 x.1, .int .i64 x.2.1, .int .i64 x.2.2] ∧ (Lit.int .i64 x.1).wf = true ∧ (Lit.int .i64 x.2.1).wf = true ∧ (Lit.int .i64 x.2.2).wf = true := by
  obtain ⟨r0, rfl, h0, h⟩ := rd_int h
  obtain ⟨r1, rfl, h1, h⟩ := rd_int h
  obtain ⟨rfl, h2⟩ := h
  exact ⟨rfl, h0, h1, h2⟩
theorem own_Mailbox {F : Nat → Prop} {w : World} {cs : List Value} {x : VMailbox} (h : tyMailbox.own F w cs x) : cs = [.int .i64 x.1, .int .i64 x.2.1, .int .i64 x.2.2] ∧ (Lit.int .i64 x.1).wf = true ∧ (Lit.int .i64 x.2.1).wf = true ∧ (Lit.int .i64 x.2.2).wf = true := by
  obtain ⟨r0, rfl, h0, h⟩ := own_int h
  obtain ⟨r1, rfl, h1, h⟩ := own_int h
  obtain ⟨rfl, h2⟩ := h
  exact ⟨rfl, h0, h1, h2⟩
theorem rd_mkMailbox {l : Nat} {w : World} {x : VMailbox}  (h0 : (Lit.int .i64 x.1).wf = true) (h1 : (Lit.int .i64 x.2.1).wf = true) (h2 : (Lit.int .i64 x.2.2).wf = true) : tyMailbox.rd l w [.int .i64 x.1, .int .i64 x.2.1, .int .i64 x.2.2] x :=
  int_rd h0 (int_rd h1 (⟨rfl, h2⟩))
theorem own_mkMailbox {F : Nat → Prop} {w : World} {x : VMailbox}  (h0 : (Lit.int .i64 x.1).wf = true) (h1 : (Lit.int .i64 x.2.1).wf = true) (h2 : (Lit.int .i64 x.2.2).wf = true)   : tyMailbox.own F w [.int .i64 x.1, .int .i64 x.2.1, .int .i64 x.2.2] x := by
  exact int_own h0 (int_own h1 (⟨rfl, h2⟩))

set_option maxRecDepth 20000 in
set_option maxHeartbeats 2000000 in
/-- laws.toMailbox -/
theorem toMailbox_any {l : Nat} {w : World} {cs : List Value} {x : VMailbox} (h : tyMailbox.rd l w cs x) (hl : l ≤ w.heap.size) (hn : tyMailbox.tot x ≤ 1073741824) :
    Calls Try.prog 19 #[.agg cs.toArray] w fun e w' => ∃ ds, e = .returned (.agg ds.toArray) ∧ tyMailbox.own (ival w.heap.size w'.heap.size) w' ds x ∧ Below w.heap.size w w' := by
  obtain ⟨rfl, h0, h1, h2⟩ := rd_Mailbox h
  have H0 := Lib.hid h0
  have H1 := Lib.hid h1
  have H2 := Lib.hid h2
  clear h h0 h1 h2
  go_enter Try.func19, Try.ntmps19
  go_wp2_with fail
  exact bodyPost_ret (v := .agg #[.int .i64 x.1, .int .i64 x.2.1, .int .i64 x.2.2]) (by simp [results, Try.results19, go_sem]) rfl ⟨_, rfl, own_mkMailbox H0.out H1.out H2.out, (((Below.refl _ _).alloc (Nat.le_refl _) _).alloc (by simp) _).alloc (by simp; omega) _⟩

set_option maxRecDepth 20000 in
set_option maxHeartbeats 2000000 in
/-- laws.eqMailbox at the same values. -/
theorem eqMailbox_same {l1 l2 : Nat} {w : World} {c d : List Value} {x : VMailbox} (hu : tyMailbox.rd l1 w c x) (hv : tyMailbox.rd l2 w d x) (hl1 : l1 ≤ w.heap.size) (hl2 : l2 ≤ w.heap.size) :
    Calls Try.prog 22 #[.agg c.toArray, .agg d.toArray] w fun e w' => e = .returned (.bool true) ∧ Below w.heap.size w w' := by
  obtain ⟨rfl, h0, h1, h2⟩ := rd_Mailbox hu
  obtain ⟨rfl, k0, k1, k2⟩ := rd_Mailbox hv
  clear hu hv h0 k0 h1 k1 h2 k2
  go_enter Try.func22, Try.ntmps22
  go_wp2_with fail
  go_ret
  exact ⟨rfl, ((Below.refl _ _).alloc (Nat.le_refl _) _).alloc (by simp) _⟩

end Go.Proofs.Ytbimihljaalllaa
