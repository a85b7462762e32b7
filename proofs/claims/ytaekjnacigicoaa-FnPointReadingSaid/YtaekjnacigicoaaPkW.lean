/- Chapter 10's contracts in the words of the exact laws. No conditions but numbers that a machine holds. -/
import Derived.Test.YtaekjnacigicoaaPk7
import Derived.Test.YtaekjnacigicoaaPk9
import Derived.Test.YtaekjnacigicoaaBaX
namespace Go.Proofs.Ytaekjnacigicoaa
open Go Go.RowKit
set_option linter.unusedVariables false
attribute [local irreducible] kh

section
variable {l : Nat} {w : World} {c : List Value} {x : VPointKey}
theorem impl_ev_t {a0 a1 a2 : Int} {c : List Value} {x : VCorrection} (h : tyCorrection.rd l w c x) (hl : l ≤ w.heap.size) (w0 : (Lit.int .i64 a0).wf = true) (w1 : (Lit.int .i64 a1).wf = true) (w2 : (Lit.int .i64 a2).wf = true) :
    Calls Try.prog 31 #[.int .i64 a0, .int .i64 a1, .int .i64 a2, .agg c.toArray] w fun e w' => e = .returned (.tuple #[.int .i64 (evN a0 a1 a2 x).1, .int .i64 (evN a0 a1 a2 x).2]) ∧ Below w.heap.size w w' := by
  obtain ⟨rfl, _⟩ := rd_Correction h
  exact impl_ev w0 w2
theorem impl_eall_t (h : tyPointKey.rd l w c x) (hl : l ≤ w.heap.size) : Calls Try.prog 10 #[.agg c.toArray] w fun e w' => ∃ (v : Value) (F : Nat → Prop), e = .returned v ∧ (sliceT 3 i64T).own F w' [v] (eall x.1 x.2.1 x.2.2) ∧ (∀ b, F b → w.heap.size ≤ b ∧ b < w'.heap.size) ∧ Below w.heap.size w w' := by
  obtain ⟨a, n, rfl, h0, h1, h2⟩ := rd_PointKey h
  refine (impl_eall h2 hl h0 h1).mono ?_
  rintro e w' ⟨v, he, hO, hb⟩
  exact ⟨v, ival w.heap.size w'.heap.size, he, slo_of_own hO (fun b h1 h2 => ⟨h1, h2⟩), fun b h => h, hb⟩
theorem prt_wf {d p ra rb r : Int} (hr : (Lit.int .i64 r).wf = true) : (Lit.int .i64 (prt d p ra rb r)).wf = true := by
  unfold prt
  split
  · exact hr
  · decide
/-- A key of the call's own. -/
theorem key_own {B : Nat} {v : Value} {r b : Int} {cs : List Cor} {w : World} (hr : (Lit.int .i64 r).wf = true) (hb : (Lit.int .i64 b).wf = true) (h : OwnS corE 47 B w v cs) : tyPointKey.own (fun b => v.ownBlock = some b) w [.int .i64 r, .int .i64 b, v] (r, b, cs) := by
  exact int_own (p := (r, b, cs)) hr (int_own (p := (b, cs)) hb (slo_of_ownS_in cor_flat h (fun r hr => hr)))
theorem impl_mk_t {a0 a1 a2 a3 : Int} (w0 : (Lit.int .i64 a0).wf = true) (w1 : (Lit.int .i64 a1).wf = true) (w2 : (Lit.int .i64 a2).wf = true) (w3 : (Lit.int .i64 a3).wf = true) :
    Calls Try.prog 7 #[.int .i64 a0, .int .i64 a1, .int .i64 a2, .int .i64 a3] w fun e w' => ∃ (c1 c2 : List Value) (F1 F2 : Nat → Prop), e = .returned (.tuple #[.agg c1.toArray, .agg c2.toArray, .bool (pkOk a0 a1 a2 a3)]) ∧ tyPointKey.own F1 w' c1 (prt a0 a1 a2 a3 a2, 0, pcs a0 a1 a2 a3) ∧ tyPointKey.own F2 w' c2 (prt a0 a1 a2 a3 a3, prt a0 a1 a2 a3 1, pcs a0 a1 a2 a3) ∧
      (∀ b, F1 b → w.heap.size ≤ b ∧ b < w'.heap.size) ∧ (∀ b, F2 b → w.heap.size ≤ b ∧ b < w'.heap.size) ∧ (∀ b, F1 b → ¬ F2 b) ∧ Below w.heap.size w w' := by
  refine (impl_mk w0 w1 w2 w3).mono ?_
  rintro e w' ⟨v1, v2, he, h1, h2, h3, hb⟩
  exact ⟨_, _, _, _, he, key_own (prt_wf w2) (by decide) h1, key_own (prt_wf w3) (prt_wf (by decide)) h2, fun b hb => h1.lt b hb, fun b hb => h2.lt b hb, fun b hb => h3 b hb, hb⟩
end

/-! ### How many marks -/

theorem cnt_cors (cs : List Cor) : cntL tyCorrection cs = 3 * cs.length := by
  induction cs with
  | nil => rfl
  | cons c l ih =>
    have : cntL tyCorrection (c :: l) = 3 + cntL tyCorrection l := rfl
    rw [this, ih, List.length_cons]; omega
theorem vb_pk {x : VPointKey} (h : tyPointKey.tot x ≤ 1048576) : tyPointKey.vcnt x ≤ 1099511627776 := by
  have h1 : totL tyCorrection x.2.2 ≤ 1048576 := h
  have h2 := totL_eq tyCorrection x.2.2
  show cntL tyCorrection x.2.2 ≤ _
  rw [cnt_cors]; omega
theorem vb_pcs (r b d p ra rb : Int) : tyPointKey.vcnt (r, b, pcs d p ra rb) ≤ 1099511627776 := by
  show cntL tyCorrection (pcs d p ra rb) ≤ _
  rw [cnt_cors]
  unfold pcs
  split
  · rename_i h
    obtain ⟨D, I, rfl, rfl, _, h6, _⟩ := pkOk_iff.1 h
    rw [mkc_len]; simp; omega
  · simp
theorem vb_eall (r b : Int) (cs : List Cor) : (sliceT 3 i64T).vcnt (eall r b cs) ≤ 1099511627776 := by
  show cntL i64T (eall r b cs) ≤ _
  have e : cntL i64T (eall r b cs) = (eall r b cs).length := cntL_int _ _ _ _
  rw [e]
  unfold eall
  split
  · rename_i h
    have := (pow_le6 (vk_len h).2).2
    simp; omega
  · simp
theorem vb_enk (r b : Int) (cs : List Cor) : (sliceT 5 u8T).vcnt (epkBytes r b cs) ≤ 1099511627776 := by
  show cntL u8T (epkBytes r b cs) ≤ _
  have e : cntL u8T (epkBytes r b cs) = (epkBytes r b cs).length := cntL_int _ _ _ _
  rw [e]
  unfold epkBytes
  split
  · rename_i h
    have h1 := enc_len (pkInts r b cs)
    have h2 : (pkInts r b cs).length = 3 + 3 * cs.length := by unfold pkInts; rw [List.length_append, cints_len]; simp
    have := (vk_len h).2
    omega
  · simp

end Go.Proofs.Ytaekjnacigicoaa
