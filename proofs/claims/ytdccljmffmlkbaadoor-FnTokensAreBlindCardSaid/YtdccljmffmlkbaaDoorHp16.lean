/- The laws' helpers on Token, BlindRequest, BlindReply: size, copy, equality, marks. No conditions but a size that a machine holds. -/
import Derived.Test.YtdccljmffmlkbaaDoorBaX
import Derived.Test.YtdccljmffmlkbaaDoorHeldL
import Derived.Deep.RegionHeld3
import Derived.Deep.DeepCutAuto
namespace Go.Proofs.YtdccljmffmlkbaaDoor
open Go Go.RowKit
set_option linter.unusedVariables false

abbrev VToken := Int × Int
def tyToken : Ty VToken := iC i64T

theorem rd_Token {l : Nat} {w : World} {cs : List Value} {x : VToken} (h : tyToken.rd l w cs x) : cs = [.int .i64 x.1, .int .i64 x.2] ∧ (Lit.int .i64 x.1).wf = true ∧ (Lit.int .i64 x.2).wf = true := by
  obtain ⟨r0, rfl, h0, h⟩ := rd_int h
  obtain ⟨rfl, h1⟩ := h
  exact ⟨rfl, h0, h1⟩
theorem own_Token {F : Nat → Prop} {w : World} {cs : List Value} {x : VToken} (h : tyToken.own F w cs x) : cs = [.int .i64 x.1, .int .i64 x.2] ∧ (Lit.int .i64 x.1).wf = true ∧ (Lit.int .i64 x.2).wf = true := by
  obtain ⟨r0, rfl, h0, h⟩ := own_int h
  obtain ⟨rfl, h1⟩ := h
  exact ⟨rfl, h0, h1⟩
theorem rd_mkToken {l : Nat} {w : World} {x : VToken}  (h0 : (Lit.int .i64 x.1).wf = true) (h1 : (Lit.int .i64 x.2).wf = true) : tyToken.rd l w [.int .i64 x.1, .int .i64 x.2] x :=
  int_rd h0 (⟨rfl, h1⟩)
theorem own_mkToken {F : Nat → Prop} {w : World} {x : VToken}  (h0 : (Lit.int .i64 x.1).wf = true) (h1 : (Lit.int .i64 x.2).wf = true)   : tyToken.own F w [.int .i64 x.1, .int .i64 x.2] x := by
  exact int_own h0 (⟨rfl, h1⟩)

abbrev VBlindRequest := Int
def tyBlindRequest : Ty VBlindRequest := i64T

theorem rd_BlindRequest {l : Nat} {w : World} {cs : List Value} {x : VBlindRequest} (h : tyBlindRequest.rd l w cs x) : cs = [.int .i64 x] ∧ (Lit.int .i64 x).wf = true := by
  obtain ⟨rfl, h0⟩ := h
  exact ⟨rfl, h0⟩
theorem own_BlindRequest {F : Nat → Prop} {w : World} {cs : List Value} {x : VBlindRequest} (h : tyBlindRequest.own F w cs x) : cs = [.int .i64 x] ∧ (Lit.int .i64 x).wf = true := by
  obtain ⟨rfl, h0⟩ := h
  exact ⟨rfl, h0⟩
theorem rd_mkBlindRequest {l : Nat} {w : World} {x : VBlindRequest}  (h0 : (Lit.int .i64 x).wf = true) : tyBlindRequest.rd l w [.int .i64 x] x :=
  ⟨rfl, h0⟩
theorem own_mkBlindRequest {F : Nat → Prop} {w : World} {x : VBlindRequest}  (h0 : (Lit.int .i64 x).wf = true)   : tyBlindRequest.own F w [.int .i64 x] x := by
  exact ⟨rfl, h0⟩

set_option maxRecDepth 20000 in
set_option maxHeartbeats 2000000 in
/-- laws.toBlindRequest -/
theorem toBlindRequest_any {l : Nat} {w : World} {cs : List Value} {x : VBlindRequest} (h : tyBlindRequest.rd l w cs x) (hl : l ≤ w.heap.size) (hn : tyBlindRequest.tot x ≤ 1073741824) :
    Calls Tryd.prog 40 #[.agg cs.toArray] w fun e w' => ∃ ds, e = .returned (.agg ds.toArray) ∧ tyBlindRequest.own (ival w.heap.size w'.heap.size) w' ds x ∧ Below w.heap.size w w' := by
  obtain ⟨rfl, h0⟩ := rd_BlindRequest h
  have H0 := Lib.hid h0
  clear h h0
  go_enter Tryd.func40, Tryd.ntmps40
  go_wp2_with fail
  exact bodyPost_ret (v := .agg #[.int .i64 x]) (by simp [results, Tryd.results40, go_sem]) rfl ⟨_, rfl, own_mkBlindRequest H0.out, (((Below.refl _ _).alloc (Nat.le_refl _) _).alloc (by simp) _).alloc (by simp; omega) _⟩

abbrev VBlindReply := Int × Int × Int
def tyBlindReply : Ty VBlindReply := iC (iC i64T)

theorem rd_BlindReply {l : Nat} {w : World} {cs : List Value} {x : VBlindReply} (h : tyBlindReply.rd l w cs x) : cs = [.int .i64 x.1, .int .i64 x.2.1, .int .i64 x.2.2] ∧ (Lit.int .i64 x.1).wf = true ∧ (Lit.int .i64 x.2.1).wf = true ∧ (Lit.int .i64 x.2.2).wf = true := by
  obtain ⟨r0, rfl, h0, h⟩ := rd_int h
  obtain ⟨r1, rfl, h1, h⟩ := rd_int h
  obtain ⟨rfl, h2⟩ := h
  exact ⟨rfl, h0, h1, h2⟩
theorem own_BlindReply {F : Nat → Prop} {w : World} {cs : List Value} {x : VBlindReply} (h : tyBlindReply.own F w cs x) : cs = [.int .i64 x.1, .int .i64 x.2.1, .int .i64 x.2.2] ∧ (Lit.int .i64 x.1).wf = true ∧ (Lit.int .i64 x.2.1).wf = true ∧ (Lit.int .i64 x.2.2).wf = true := by
  obtain ⟨r0, rfl, h0, h⟩ := own_int h
  obtain ⟨r1, rfl, h1, h⟩ := own_int h
  obtain ⟨rfl, h2⟩ := h
  exact ⟨rfl, h0, h1, h2⟩
theorem rd_mkBlindReply {l : Nat} {w : World} {x : VBlindReply}  (h0 : (Lit.int .i64 x.1).wf = true) (h1 : (Lit.int .i64 x.2.1).wf = true) (h2 : (Lit.int .i64 x.2.2).wf = true) : tyBlindReply.rd l w [.int .i64 x.1, .int .i64 x.2.1, .int .i64 x.2.2] x :=
  int_rd h0 (int_rd h1 (⟨rfl, h2⟩))
theorem own_mkBlindReply {F : Nat → Prop} {w : World} {x : VBlindReply}  (h0 : (Lit.int .i64 x.1).wf = true) (h1 : (Lit.int .i64 x.2.1).wf = true) (h2 : (Lit.int .i64 x.2.2).wf = true)   : tyBlindReply.own F w [.int .i64 x.1, .int .i64 x.2.1, .int .i64 x.2.2] x := by
  exact int_own h0 (int_own h1 (⟨rfl, h2⟩))

end Go.Proofs.YtdccljmffmlkbaaDoor
