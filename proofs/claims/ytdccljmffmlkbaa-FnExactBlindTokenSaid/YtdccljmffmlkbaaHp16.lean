/- The laws' helpers on Token, BlindRequest, BlindReply: size, copy, equality, marks. No conditions but a size that a machine holds. -/
import Derived.Test.YtdccljmffmlkbaaBaX
import Derived.Test.YtdccljmffmlkbaaHeldL
import Derived.Deep.RegionHeld3
import Derived.Deep.DeepCutAuto
namespace Go.Proofs.Ytdccljmffmlkbaa
open Go Go.RowKit
set_option linter.unusedVariables false

abbrev VToken := Int × Int
def tyToken : Ty VToken := iC i64T

theorem rd_Token {l : Nat} {w : World} {cs : List Value} {x : VToken} (h : tyToken.rd l w cs x) : cs = [.int .i64 x.1, .int .i64 x.2] ∧ (Lit.int .i64 x.1).wf = true ∧ (Lit.int .i64 x.2).wf = true := by
  obtain ⟨r0, rfl, h0, h⟩ := rd_int h
  obtain ⟨rfl, h1⟩ := h
  exact ⟨rfl, h0, h1⟩
theorem own_Token {F : Nat → Prop} {w : World} {cs : List Value} {x : VToken} (h : tyToken.own F w cs x) : cs = [.int .i64 x.1, .int .i64 x.2] ∧ (Lit.int .i64 x.1).wf = true ∧ (Lit.int .i64 x.2).wf = true := by
  obtain ⟨r0, rfl, h0, h⟩ := own_int h
  obtain ⟨rfl, h1⟩ := h
  exact ⟨rfl, h0, h1⟩
theorem rd_mkToken {l : Nat} {w : World} {x : VToken}  (h0 : (Lit.int .i64 x.1).wf = true) (h1 : (Lit.int .i64 x.2).wf = true) : tyToken.rd l w [.int .i64 x.1, .int .i64 x.2] x :=
  int_rd h0 (⟨rfl, h1⟩)
theorem own_mkToken {F : Nat → Prop} {w : World} {x : VToken}  (h0 : (Lit.int .i64 x.1).wf = true) (h1 : (Lit.int .i64 x.2).wf = true)   : tyToken.own F w [.int .i64 x.1, .int .i64 x.2] x := by
  exact int_own h0 (⟨rfl, h1⟩)

set_option maxRecDepth 20000 in
set_option maxHeartbeats 2000000 in
/-- laws.toToken -/
theorem toToken_any {l : Nat} {w : World} {cs : List Value} {x : VToken} (h : tyToken.rd l w cs x) (hl : l ≤ w.heap.size) (hn : tyToken.tot x ≤ 1073741824) :
    Calls Try.prog 25 #[.agg cs.toArray] w fun e w' => ∃ ds, e = .returned (.agg ds.toArray) ∧ tyToken.own (ival w.heap.size w'.heap.size) w' ds x ∧ Below w.heap.size w w' := by
  obtain ⟨rfl, h0, h1⟩ := rd_Token h
  have H0 := Lib.hid h0
  have H1 := Lib.hid h1
  clear h h0 h1
  go_enter Try.func25, Try.ntmps25
  go_wp2_with fail
  exact bodyPost_ret (v := .agg #[.int .i64 x.1, .int .i64 x.2]) (by simp [results, Try.results25, go_sem]) rfl ⟨_, rfl, own_mkToken H0.out H1.out, (((Below.refl _ _).alloc (Nat.le_refl _) _).alloc (by simp) _).alloc (by simp; omega) _⟩

set_option maxRecDepth 20000 in
set_option maxHeartbeats 2000000 in
/-- laws.eqToken at the same values. -/
theorem eqToken_same {l1 l2 : Nat} {w : World} {c d : List Value} {x : VToken} (hu : tyToken.rd l1 w c x) (hv : tyToken.rd l2 w d x) (hl1 : l1 ≤ w.heap.size) (hl2 : l2 ≤ w.heap.size) :
    Calls Try.prog 23 #[.agg c.toArray, .agg d.toArray] w fun e w' => e = .returned (.bool true) ∧ Below w.heap.size w w' := by
  obtain ⟨rfl, h0, h1⟩ := rd_Token hu
  obtain ⟨rfl, k0, k1⟩ := rd_Token hv
  clear hu hv h0 k0 h1 k1
  go_enter Try.func23, Try.ntmps23
  go_wp2_with fail
  go_ret
  exact ⟨rfl, ((Below.refl _ _).alloc (Nat.le_refl _) _).alloc (by simp) _⟩

abbrev VBlindRequest := Int
def tyBlindRequest : Ty VBlindRequest := i64T

theorem rd_BlindRequest {l : Nat} {w : World} {cs : List Value} {x : VBlindRequest} (h : tyBlindRequest.rd l w cs x) : cs = [.int .i64 x] ∧ (Lit.int .i64 x).wf = true := by
  obtain ⟨rfl, h0⟩ := h
  exact ⟨rfl, h0⟩
theorem own_BlindRequest {F : Nat → Prop} {w : World} {cs : List Value} {x : VBlindRequest} (h : tyBlindRequest.own F w cs x) : cs = [.int .i64 x] ∧ (Lit.int .i64 x).wf = true := by
  obtain ⟨rfl, h0⟩ := h
  exact ⟨rfl, h0⟩
theorem rd_mkBlindRequest {l : Nat} {w : World} {x : VBlindRequest}  (h0 : (Lit.int .i64 x).wf = true) : tyBlindRequest.rd l w [.int .i64 x] x :=
  ⟨rfl, h0⟩
theorem own_mkBlindRequest {F : Nat → Prop} {w : World} {x : VBlindRequest}  (h0 : (Lit.int .i64 x).wf = true)   : tyBlindRequest.own F w [.int .i64 x] x := by
  exact ⟨rfl, h0⟩

set_option maxRecDepth 20000 in
set_option maxHeartbeats 2000000 in
/-- laws.eqBlindRequest at the same values. -/
theorem eqBlindRequest_same {l1 l2 : Nat} {w : World} {c d : List Value} {x : VBlindRequest} (hu : tyBlindRequest.rd l1 w c x) (hv : tyBlindRequest.rd l2 w d x) (hl1 : l1 ≤ w.heap.size) (hl2 : l2 ≤ w.heap.size) :
    Calls Try.prog 19 #[.agg c.toArray, .agg d.toArray] w fun e w' => e = .returned (.bool true) ∧ Below w.heap.size w w' := by
  obtain ⟨rfl, h0⟩ := rd_BlindRequest hu
  obtain ⟨rfl, k0⟩ := rd_BlindRequest hv
  clear hu hv h0 k0
  go_enter Try.func19, Try.ntmps19
  go_wp2_with fail
  go_ret
  exact ⟨rfl, ((Below.refl _ _).alloc (Nat.le_refl _) _).alloc (by simp) _⟩

abbrev VBlindReply := Int × Int × Int
def tyBlindReply : Ty VBlindReply := iC (iC i64T)

theorem rd_BlindReply {l : Nat} {w : World} {cs : List Value} {x : VBlindReply} (h : tyBlindReply.rd l w cs x) : cs = [.int .i64 x.1, .int .i64 x.2.1, .int .i64 x.2.2] ∧ (Lit.int .i64 x.1).wf = true ∧ (Lit.int .i64 x.2.1).wf = true ∧ (Lit.int .i64 x.2.2).wf = true := by
  obtain ⟨r0, rfl, h0, h⟩ := rd_int h
  obtain ⟨r1, rfl, h1, h⟩ := rd_int h
  obtain ⟨rfl, h2⟩ := h
  exact ⟨rfl, h0, h1, h2⟩
theorem own_BlindReply {F : Nat → Prop} {w : World} {cs : List Value} {x : VBlindReply} (h : tyBlindReply.own F w cs x) : cs = [.int .i64 x.1, .int .i64 x.2.1, .int .i64 x.2.2] ∧ (Lit.int .i64 x.1).wf = true ∧ (Lit.int .i64 x.2.1).wf = true ∧ (Lit.int .i64 x.2.2).wf = true := by
  obtain ⟨r0, rfl, h0, h⟩ := own_int h
  obtain ⟨r1, rfl, h1, h⟩ := own_int h
  obtain ⟨rfl, h2⟩ := h
  exact ⟨rfl, h0, h1, h2⟩
theorem rd_mkBlindReply {l : Nat} {w : World} {x : VBlindReply}  (h0 : (Lit.int .i64 x.1).wf = true) (h1 : (Lit.int .i64 x.2.1).wf = true) (h2 : (Lit.int .i64 x.2.2).wf = true) : tyBlindReply.rd l w [.int .i64 x.1, .int .i64 x.2.1, .int .i64 x.2.2] x :=
  int_rd h0 (int_rd h1 (⟨rfl, h2⟩))
theorem own_mkBlindReply {F : Nat → Prop} {w : World} {x : VBlindReply}  (h0 : (Lit.int .i64 x.1).wf = true) (h1 : (Lit.int .i64 x.2.1).wf = true) (h2 : (Lit.int .i64 x.2.2).wf = true)   : tyBlindReply.own F w [.int .i64 x.1, .int .i64 x.2.1, .int .i64 x.2.2] x := by
  exact int_own h0 (int_own h1 (⟨rfl, h2⟩))

set_option maxRecDepth 20000 in
set_option maxHeartbeats 2000000 in
/-- laws.toBlindReply -/
theorem toBlindReply_any {l : Nat} {w : World} {cs : List Value} {x : VBlindReply} (h : tyBlindReply.rd l w cs x) (hl : l ≤ w.heap.size) (hn : tyBlindReply.tot x ≤ 1073741824) :
    Calls Try.prog 21 #[.agg cs.toArray] w fun e w' => ∃ ds, e = .returned (.agg ds.toArray) ∧ tyBlindReply.own (ival w.heap.size w'.heap.size) w' ds x ∧ Below w.heap.size w w' := by
  obtain ⟨rfl, h0, h1, h2⟩ := rd_BlindReply h
  have H0 := Lib.hid h0
  have H1 := Lib.hid h1
  have H2 := Lib.hid h2
  clear h h0 h1 h2
  go_enter Try.func21, Try.ntmps21
  go_wp2_with fail
  exact bodyPost_ret (v := .agg #[.int .i64 x.1, .int .i64 x.2.1, .int .i64 x.2.2]) (by simp [results, Try.results21, go_sem]) rfl ⟨_, rfl, own_mkBlindReply H0.out H1.out H2.out, (((Below.refl _ _).alloc (Nat.le_refl _) _).alloc (by simp) _).alloc (by simp; omega) _⟩

end Go.Proofs.Ytdccljmffmlkbaa
