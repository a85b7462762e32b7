/- Chapter 16's contracts in the words of the exact laws: IssuerKey, BlindToken, SignBlinded, FinishToken, IsValidToken. No conditions but numbers that a machine holds. -/
import Derived.Test.YtdccljmffmlkbaaTk5
import Derived.Test.YtdccljmffmlkbaaHp16
import Derived.Test.YtdccljmffmlkbaaBaX
namespace Go.Proofs.Ytdccljmffmlkbaa
open Go Go.RowKit
set_option linter.unusedVariables false
attribute [local irreducible] kh kid pwm tcm pw chl

theorem sg_wf (s x t : Int) : (Lit.int .i64 (sgE s x)).wf = true ∧ (Lit.int .i64 (sgC s x t)).wf = true ∧ (Lit.int .i64 (sgR s x t)).wf = true := by
  obtain ⟨h1, h2, h3⟩ := sg_bound s x t
  exact ⟨small_wf (by omega) (by omega), small_wf (by omega) (by omega), small_wf (by omega) (by omega)⟩
theorem fn_wf (n b k e c r : Int) : (Lit.int .i64 (fnS n b k e c r)).wf = true ∧ (Lit.int .i64 (fnV n b k e c r)).wf = true := by
  obtain ⟨h1, h2⟩ := fn_bound (n := n) (b := b) (k := k) (e := e) (c := c) (r := r)
  exact ⟨wf_i64_of (by omega) (by omega), small_wf (by omega) (by omega)⟩

section
variable {w : World}
theorem spec_bl_t {n b : Int} (hn : (Lit.int .i64 n).wf = true) (hb : (Lit.int .i64 b).wf = true) : Calls Try.prog 17 #[.int .i64 n, .int .i64 b] w fun e w' => ∃ (c' : List Value) (F : Nat → Prop), e = .returned (.tuple #[.agg c'.toArray, .bool (blok n b)]) ∧ tyBlindRequest.own F w' c' (blE n b) ∧ (∀ b, F b → w.heap.size ≤ b ∧ b < w'.heap.size) ∧ Below w.heap.size w w' := by
  refine (spec_bl hn hb).mono ?_
  rintro e w' ⟨he, hb⟩
  exact ⟨_, fun _ => False, he, own_mkBlindRequest (blE_wf _ _), fun b h => h.elim, hb⟩
theorem spec_fn_t {l : Nat} {c : List Value} {x : VBlindReply} {n b k : Int} (h : tyBlindReply.rd l w c x) (hl : l ≤ w.heap.size) (hn : (Lit.int .i64 n).wf = true) (hb : (Lit.int .i64 b).wf = true) (hk : (Lit.int .i64 k).wf = true) : Calls Try.prog 20 #[.int .i64 n, .int .i64 b, .int .i64 k, .agg c.toArray] w fun e w' => ∃ (c' : List Value) (F : Nat → Prop), e = .returned (.tuple #[.agg c'.toArray, .bool (fnok n b k x.1 x.2.1 x.2.2)]) ∧ tyToken.own F w' c' (fnS n b k x.1 x.2.1 x.2.2, fnV n b k x.1 x.2.1 x.2.2) ∧ (∀ b, F b → w.heap.size ≤ b ∧ b < w'.heap.size) ∧ Below w.heap.size w w' := by
  obtain ⟨rfl, h0, h1, h2⟩ := rd_BlindReply h
  obtain ⟨h3, h4⟩ := fn_wf n b k x.1 x.2.1 x.2.2
  refine (spec_fn hn hb hk h0 h1 h2).mono ?_
  rintro e w' ⟨he, hb⟩
  exact ⟨_, fun _ => False, he, own_mkToken (x := (fnS n b k x.1 x.2.1 x.2.2, fnV n b k x.1 x.2.1 x.2.2)) h3 h4, fun b h => h.elim, hb⟩
theorem spec_vt_t {l : Nat} {c : List Value} {x : VToken} {s : Int} (h : tyToken.rd l w c x) (hl : l ≤ w.heap.size) (hs : (Lit.int .i64 s).wf = true) : Calls Try.prog 24 #[.int .i64 s, .agg c.toArray] w fun e w' => e = .returned (.bool (vtok s x.1 x.2)) ∧ Below w.heap.size w w' := by
  obtain ⟨rfl, h0, h1⟩ := rd_Token h
  exact spec_vt hs h0 h1
theorem impl_bl_t {n b : Int} (hn : (Lit.int .i64 n).wf = true) (hb : (Lit.int .i64 b).wf = true) : Calls Try.prog 18 #[.int .i64 n, .int .i64 b] w fun e w' => ∃ (c' : List Value) (F : Nat → Prop), e = .returned (.tuple #[.agg c'.toArray, .bool (blok n b)]) ∧ tyBlindRequest.own F w' c' (blE n b) ∧ (∀ b, F b → w.heap.size ≤ b ∧ b < w'.heap.size) ∧ Below w.heap.size w w' := by
  refine (impl_bl hn hb).mono ?_
  rintro e w' ⟨he, hb⟩
  exact ⟨_, fun _ => False, he, own_mkBlindRequest (blE_wf _ _), fun b h => h.elim, hb⟩
theorem impl_fn_t {l : Nat} {c : List Value} {x : VBlindReply} {n b k : Int} (h : tyBlindReply.rd l w c x) (hl : l ≤ w.heap.size) (hn : (Lit.int .i64 n).wf = true) (hb : (Lit.int .i64 b).wf = true) (hk : (Lit.int .i64 k).wf = true) : Calls Try.prog 22 #[.int .i64 n, .int .i64 b, .int .i64 k, .agg c.toArray] w fun e w' => ∃ (c' : List Value) (F : Nat → Prop), e = .returned (.tuple #[.agg c'.toArray, .bool (fnok n b k x.1 x.2.1 x.2.2)]) ∧ tyToken.own F w' c' (fnS n b k x.1 x.2.1 x.2.2, fnV n b k x.1 x.2.1 x.2.2) ∧ (∀ b, F b → w.heap.size ≤ b ∧ b < w'.heap.size) ∧ Below w.heap.size w w' := by
  obtain ⟨rfl, h0, h1, h2⟩ := rd_BlindReply h
  obtain ⟨h3, h4⟩ := fn_wf n b k x.1 x.2.1 x.2.2
  refine (impl_fn hn hb hk h0 h1 h2).mono ?_
  rintro e w' ⟨he, hb⟩
  exact ⟨_, fun _ => False, he, own_mkToken (x := (fnS n b k x.1 x.2.1 x.2.2, fnV n b k x.1 x.2.1 x.2.2)) h3 h4, fun b h => h.elim, hb⟩
theorem impl_vt_t {l : Nat} {c : List Value} {x : VToken} {s : Int} (h : tyToken.rd l w c x) (hl : l ≤ w.heap.size) (hs : (Lit.int .i64 s).wf = true) : Calls Try.prog 26 #[.int .i64 s, .agg c.toArray] w fun e w' => e = .returned (.bool (vtok s x.1 x.2)) ∧ Below w.heap.size w w' := by
  obtain ⟨rfl, h0, h1⟩ := rd_Token h
  exact impl_vt hs h0 h1
end

theorem vb_tok (x : VToken) : tyToken.vcnt x ≤ 1099511627776 := by
  have e1 : tyToken.vcnt x = 0 := rfl
  omega
theorem vb_req (x : VBlindRequest) : tyBlindRequest.vcnt x ≤ 1099511627776 := by
  have e1 : tyBlindRequest.vcnt x = 0 := rfl
  omega
theorem vb_rep (x : VBlindReply) : tyBlindReply.vcnt x ≤ 1099511627776 := by
  have e1 : tyBlindReply.vcnt x = 0 := rfl
  omega

end Go.Proofs.Ytdccljmffmlkbaa
