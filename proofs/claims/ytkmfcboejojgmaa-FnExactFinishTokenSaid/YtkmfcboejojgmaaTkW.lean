/- Chapter 16's contracts in the words of the exact laws: IssuerKey, BlindToken, SignBlinded, FinishToken, IsValidToken. No conditions but numbers that a machine holds. -/
import Derived.Test.YtkmfcboejojgmaaTk5
import Derived.Test.YtkmfcboejojgmaaHp16
import Derived.Test.YtkmfcboejojgmaaBaX
namespace Go.Proofs.Ytkmfcboejojgmaa
open Go Go.RowKit
set_option linter.unusedVariables false
attribute [local irreducible] kh kid pwm tcm pw chl

theorem sg_wf (s x t : Int) : (Lit.int .i64 (sgE s x)).wf = true ∧ (Lit.int .i64 (sgC s x t)).wf = true ∧ (Lit.int .i64 (sgR s x t)).wf = true := by
  obtain ⟨h1, h2, h3⟩ := sg_bound s x t
  exact ⟨small_wf (by omega) (by omega), small_wf (by omega) (by omega), small_wf (by omega) (by omega)⟩
theorem fn_wf (n b k e c r : Int) : (Lit.int .i64 (fnS n b k e c r)).wf = true ∧ (Lit.int .i64 (fnV n b k e c r)).wf = true := by
  obtain ⟨h1, h2⟩ := fn_bound (n := n) (b := b) (k := k) (e := e) (c := c) (r := r)
  exact ⟨wf_i64_of (by omega) (by omega), small_wf (by omega) (by omega)⟩

section
variable {w : World}
theorem spec_ik_t {s : Int} (hs : (Lit.int .i64 s).wf = true) : Calls Try.prog 8 #[.int .i64 s] w fun e w' => e = .returned (.int .i64 (pwG 4 s)) ∧ Below w.heap.size w w' := (spec_ik hs).mono (by rintro e w1 ⟨he, rfl⟩; exact ⟨he, Below.refl _ _⟩)
theorem impl_ik_t {s : Int} (hs : (Lit.int .i64 s).wf = true) : Calls Try.prog 9 #[.int .i64 s] w fun e w' => e = .returned (.int .i64 (pwG 4 s)) ∧ Below w.heap.size w w' := impl_ik hs
theorem spec_bl_t {n b : Int} (hn : (Lit.int .i64 n).wf = true) (hb : (Lit.int .i64 b).wf = true) : Calls Try.prog 10 #[.int .i64 n, .int .i64 b] w fun e w' => ∃ (c' : List Value) (F : Nat → Prop), e = .returned (.tuple #[.agg c'.toArray, .bool (blok n b)]) ∧ tyBlindRequest.own F w' c' (blE n b) ∧ (∀ b, F b → w.heap.size ≤ b ∧ b < w'.heap.size) ∧ Below w.heap.size w w' := by
  refine (spec_bl hn hb).mono ?_
  rintro e w' ⟨he, hb⟩
  exact ⟨_, fun _ => False, he, own_mkBlindRequest (blE_wf _ _), fun b h => h.elim, hb⟩
theorem spec_sg_t {l : Nat} {c : List Value} {x : VBlindRequest} {s t : Int} (h : tyBlindRequest.rd l w c x) (hl : l ≤ w.heap.size) (hs : (Lit.int .i64 s).wf = true) (ht : (Lit.int .i64 t).wf = true) : Calls Try.prog 13 #[.int .i64 s, .agg c.toArray, .int .i64 t] w fun e w' => ∃ (c' : List Value) (F : Nat → Prop), e = .returned (.tuple #[.agg c'.toArray, .bool (sgok s x)]) ∧ tyBlindReply.own F w' c' (sgE s x, sgC s x t, sgR s x t) ∧ (∀ b, F b → w.heap.size ≤ b ∧ b < w'.heap.size) ∧ Below w.heap.size w w' := by
  obtain ⟨rfl, h0⟩ := rd_BlindRequest h
  obtain ⟨h1, h2, h3⟩ := sg_wf s x t
  refine (spec_sg hs h0 ht).mono ?_
  rintro e w' ⟨he, hb⟩
  exact ⟨_, fun _ => False, he, own_mkBlindReply (x := (sgE s x, sgC s x t, sgR s x t)) h1 h2 h3, fun b h => h.elim, hb⟩
theorem spec_fn_t {l : Nat} {c : List Value} {x : VBlindReply} {n b k : Int} (h : tyBlindReply.rd l w c x) (hl : l ≤ w.heap.size) (hn : (Lit.int .i64 n).wf = true) (hb : (Lit.int .i64 b).wf = true) (hk : (Lit.int .i64 k).wf = true) : Calls Try.prog 17 #[.int .i64 n, .int .i64 b, .int .i64 k, .agg c.toArray] w fun e w' => ∃ (c' : List Value) (F : Nat → Prop), e = .returned (.tuple #[.agg c'.toArray, .bool (fnok n b k x.1 x.2.1 x.2.2)]) ∧ tyToken.own F w' c' (fnS n b k x.1 x.2.1 x.2.2, fnV n b k x.1 x.2.1 x.2.2) ∧ (∀ b, F b → w.heap.size ≤ b ∧ b < w'.heap.size) ∧ Below w.heap.size w w' := by
  obtain ⟨rfl, h0, h1, h2⟩ := rd_BlindReply h
  obtain ⟨h3, h4⟩ := fn_wf n b k x.1 x.2.1 x.2.2
  refine (spec_fn hn hb hk h0 h1 h2).mono ?_
  rintro e w' ⟨he, hb⟩
  exact ⟨_, fun _ => False, he, own_mkToken (x := (fnS n b k x.1 x.2.1 x.2.2, fnV n b k x.1 x.2.1 x.2.2)) h3 h4, fun b h => h.elim, hb⟩
theorem spec_vt_t {l : Nat} {c : List Value} {x : VToken} {s : Int} (h : tyToken.rd l w c x) (hl : l ≤ w.heap.size) (hs : (Lit.int .i64 s).wf = true) : Calls Try.prog 21 #[.int .i64 s, .agg c.toArray] w fun e w' => e = .returned (.bool (vtok s x.1 x.2)) ∧ Below w.heap.size w w' := by
  obtain ⟨rfl, h0, h1⟩ := rd_Token h
  exact spec_vt hs h0 h1
theorem impl_bl_t {n b : Int} (hn : (Lit.int .i64 n).wf = true) (hb : (Lit.int .i64 b).wf = true) : Calls Try.prog 11 #[.int .i64 n, .int .i64 b] w fun e w' => ∃ (c' : List Value) (F : Nat → Prop), e = .returned (.tuple #[.agg c'.toArray, .bool (blok n b)]) ∧ tyBlindRequest.own F w' c' (blE n b) ∧ (∀ b, F b → w.heap.size ≤ b ∧ b < w'.heap.size) ∧ Below w.heap.size w w' := by
  refine (impl_bl hn hb).mono ?_
  rintro e w' ⟨he, hb⟩
  exact ⟨_, fun _ => False, he, own_mkBlindRequest (blE_wf _ _), fun b h => h.elim, hb⟩
theorem impl_sg_t {l : Nat} {c : List Value} {x : VBlindRequest} {s t : Int} (h : tyBlindRequest.rd l w c x) (hl : l ≤ w.heap.size) (hs : (Lit.int .i64 s).wf = true) (ht : (Lit.int .i64 t).wf = true) : Calls Try.prog 15 #[.int .i64 s, .agg c.toArray, .int .i64 t] w fun e w' => ∃ (c' : List Value) (F : Nat → Prop), e = .returned (.tuple #[.agg c'.toArray, .bool (sgok s x)]) ∧ tyBlindReply.own F w' c' (sgE s x, sgC s x t, sgR s x t) ∧ (∀ b, F b → w.heap.size ≤ b ∧ b < w'.heap.size) ∧ Below w.heap.size w w' := by
  obtain ⟨rfl, h0⟩ := rd_BlindRequest h
  obtain ⟨h1, h2, h3⟩ := sg_wf s x t
  refine (impl_sg hs h0 ht).mono ?_
  rintro e w' ⟨he, hb⟩
  exact ⟨_, fun _ => False, he, own_mkBlindReply (x := (sgE s x, sgC s x t, sgR s x t)) h1 h2 h3, fun b h => h.elim, hb⟩
theorem impl_fn_t {l : Nat} {c : List Value} {x : VBlindReply} {n b k : Int} (h : tyBlindReply.rd l w c x) (hl : l ≤ w.heap.size) (hn : (Lit.int .i64 n).wf = true) (hb : (Lit.int .i64 b).wf = true) (hk : (Lit.int .i64 k).wf = true) : Calls Try.prog 19 #[.int .i64 n, .int .i64 b, .int .i64 k, .agg c.toArray] w fun e w' => ∃ (c' : List Value) (F : Nat → Prop), e = .returned (.tuple #[.agg c'.toArray, .bool (fnok n b k x.1 x.2.1 x.2.2)]) ∧ tyToken.own F w' c' (fnS n b k x.1 x.2.1 x.2.2, fnV n b k x.1 x.2.1 x.2.2) ∧ (∀ b, F b → w.heap.size ≤ b ∧ b < w'.heap.size) ∧ Below w.heap.size w w' := by
  obtain ⟨rfl, h0, h1, h2⟩ := rd_BlindReply h
  obtain ⟨h3, h4⟩ := fn_wf n b k x.1 x.2.1 x.2.2
  refine (impl_fn hn hb hk h0 h1 h2).mono ?_
  rintro e w' ⟨he, hb⟩
  exact ⟨_, fun _ => False, he, own_mkToken (x := (fnS n b k x.1 x.2.1 x.2.2, fnV n b k x.1 x.2.1 x.2.2)) h3 h4, fun b h => h.elim, hb⟩
theorem impl_vt_t {l : Nat} {c : List Value} {x : VToken} {s : Int} (h : tyToken.rd l w c x) (hl : l ≤ w.heap.size) (hs : (Lit.int .i64 s).wf = true) : Calls Try.prog 23 #[.int .i64 s, .agg c.toArray] w fun e w' => e = .returned (.bool (vtok s x.1 x.2)) ∧ Below w.heap.size w w' := by
  obtain ⟨rfl, h0, h1⟩ := rd_Token h
  exact impl_vt hs h0 h1
end

theorem vb_tok (x : VToken) : tyToken.vcnt x ≤ 1099511627776 := by
  have e1 : tyToken.vcnt x = 0 := rfl
  omega
theorem vb_req (x : VBlindRequest) : tyBlindRequest.vcnt x ≤ 1099511627776 := by
  have e1 : tyBlindRequest.vcnt x = 0 := rfl
  omega
theorem vb_rep (x : VBlindReply) : tyBlindReply.vcnt x ≤ 1099511627776 := by
  have e1 : tyBlindReply.vcnt x = 0 := rfl
  omega

end Go.Proofs.Ytkmfcboejojgmaa
